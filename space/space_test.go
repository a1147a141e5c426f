package space_test

import (
	"bytes"
	"math/rand"
	"slices"
	"testing"

	"hostel/api"
	"hostel/cache"
	"hostel/frames"
	"hostel/space"
	"hostel/vfs"
)

const (
	page = api.Page
	most = 1<<64 - 1
)

// over is a cache over n frames and the files 1 (5000 bytes 07), 2 (65536 bytes), 3 (none); 4 is a directory, 5 a link.
func over(t *testing.T, n int) *cache.Cache {
	t.Helper()
	p, _ := frames.New(n)
	long := make([]byte, 65536)
	for i := range long {
		long[i] = byte(i/4096 + i%251)
	}
	f, e, _ := vfs.New([]api.Entry{{Path: "/f", Kind: 1, Data: bytes.Repeat([]byte{7}, 5000)}, {Path: "/g", Kind: 1, Data: long}, {Path: "/h", Kind: 1}, {Path: "/d", Kind: 2}, {Path: "/l", Kind: 3, To: "f"}})
	if e != api.OK {
		t.Fatal(e)
	}
	c, _ := cache.New(p, f)
	return c
}

func made(t *testing.T, c *cache.Cache) *space.Space {
	t.Helper()
	s, e := space.New(c)
	if s == nil || e != api.OK {
		t.Fatalf("P11.1: New: %d", e)
	}
	return s
}

// reg is a region told in pages.
func reg(from, to uint64, prot uint8, ino int, off uint64) api.Region {
	return api.Region{From: from * page, To: to * page, Prot: prot, Ino: ino, Off: off * page}
}

func same(t *testing.T, what string, got, want api.Errno) {
	t.Helper()
	if got != want {
		t.Errorf("%s: %d, want %d", what, got, want)
	}
}

func load(t *testing.T, s *space.Space, addr uint64, n int, want string, e api.Errno) {
	t.Helper()
	if got, err := s.Load(addr, n); string(got) != want || err != e {
		t.Errorf("P11.4: Load(%#x, %d): %.40q, %d, want %.40q, %d", addr, n, got, err, want, e)
	}
}

func peek(t *testing.T, s *space.Space, addr uint64, n int, want string, e api.Errno) {
	t.Helper()
	if got, err := s.Peek(addr, n); string(got) != want || err != e {
		t.Errorf("P11.4: Peek(%#x, %d): %.40q, %d", addr, n, got, err)
	}
}

// sound holds each frame's count against what points to it (P11.9).
func sound(t *testing.T, c *cache.Cache, l ...*space.Space) {
	t.Helper()
	want := map[int]int{}
	for _, s := range l {
		for _, put := range s.Table().All() {
			want[put.Leaf.Frame]++
		}
		for _, n := range s.Table().Nodes() {
			want[n]++
		}
	}
	for _, slot := range c.Slots() {
		want[slot.Frame]++
	}
	for f := range c.Pool().Size() {
		if c.Pool().Count(f) != want[f] {
			t.Fatalf("P11.9: the frame %d is counted %d times, want %d", f, c.Pool().Count(f), want[f])
		}
	}
}

func TestExamples(t *testing.T) {
	c := over(t, 40)
	s := made(t, c)
	same(t, "P11.2: Map", s.Map(reg(1, 3, 6, 1, 0)), api.OK)
	load(t, s, 4095, 1, "", api.ErrFault)
	load(t, s, 8191, 2, "\x07\x07", api.OK)
	load(t, s, 9095, 2, "\x07\x00", api.OK)
	same(t, "P11.5: Store", s.Store(4096, []byte{9}), api.OK)
	load(t, s, 4096, 2, "\x09\x07", api.OK)
	child, e := s.Fork()
	same(t, "P11.6: Fork", e, api.OK)
	load(t, child, 4096, 2, "\x09\x07", api.OK)
	same(t, "P11.5: Store of the child", child.Store(4097, []byte{8}), api.OK)
	load(t, s, 4096, 2, "\x09\x07", api.OK)
	load(t, child, 4096, 2, "\x09\x08", api.OK)
	if b, _ := c.Files().Read(1, 0, 2); string(b) != "\x07\x07" {
		t.Errorf("P11.8: the file has %v", b)
	}
	same(t, "P11.3: Protect", s.Protect(4096, 8192, 4), api.OK)
	same(t, "P11.5: Store", s.Store(8191, []byte{1, 1}), api.ErrFault)
	same(t, "P11.5: Store", s.Store(8192, []byte{1}), api.OK)
	same(t, "P11.3: Unmap", s.Unmap(4096, 8192), api.OK)
	load(t, s, 4096, 1, "", api.ErrFault)
	load(t, s, 8192, 1, "\x01", api.OK)
	load(t, child, 8192, 1, "\x07", api.OK)
	sound(t, c, s, child)
}

func TestNewAndNil(t *testing.T) {
	if s, e := space.New(nil); s != nil || e != api.ErrNil {
		t.Errorf("P11.1: without a cache: %d", e)
	}
	c := over(t, 1)
	freed := made(t, c)
	if s, e := space.New(c); s != nil || e != api.ErrNoMem {
		t.Errorf("P11.1: without a frame: %d", e)
	}
	if len(freed.Regions()) != 0 || !slices.Equal(freed.Table().Nodes(), []int{0}) {
		t.Error("P11.1: a new space")
	}
	freed.Free()
	if c.Pool().Free() != 1 {
		t.Error("P11.7: Free")
	}
	for _, s := range []*space.Space{nil, freed} {
		same(t, "Map", s.Map(api.Region{}), api.ErrNil)
		same(t, "Unmap", s.Unmap(1, 0), api.ErrNil)
		same(t, "Protect", s.Protect(1, 0, 9), api.ErrNil)
		same(t, "Store", s.Store(most, make([]byte, 70000)), api.ErrNil)
		same(t, "Poke", s.Poke(most, nil), api.ErrNil)
		load(t, s, most, -1, "", api.ErrNil)
		peek(t, s, most, -1, "", api.ErrNil)
		if f, e := s.Fork(); f != nil || e != api.ErrNil {
			t.Errorf("P11.6: Fork: %d", e)
		}
		s.Free()
		if len(s.Regions()) != 0 || s.Table() != nil {
			t.Error("P11.7: of no space")
		}
	}
}

func TestMap(t *testing.T) {
	c := over(t, 40)
	s := made(t, c)
	for _, x := range []struct {
		r api.Region
		e api.Errno
	}{
		{reg(1, 1, 6, 1, 0), api.ErrArg}, {reg(1, 2, 8, 1, 0), api.ErrArg}, {reg(1, 2, 6, 0, 0), api.ErrArg}, {reg(1, 2, 6, 4, 0), api.ErrArg}, {reg(1, 2, 6, 5, 0), api.ErrArg}, {reg(1, 2, 6, 6, 0), api.ErrArg}, {reg(1, 2, 6, 1<<40, 0), api.ErrArg}, {reg(1, 2, 6, -2, 0), api.ErrArg}, {reg(1, 2, 6, -1, 1), api.ErrArg}, {reg(1<<35, 1<<35+1, 6, -1, 0), api.ErrArg},
		{reg(1, 4, 6, 1, 0), api.OK}, {reg(10, 1<<35, 4, -1, 0), api.OK}, {reg(5, 6, 4, 3, 1<<36-1), api.OK},
	} {
		same(t, "P11.2: Map", s.Map(x.r), x.e)
	}
	want := []api.Region{reg(1, 4, 6, 1, 0), reg(5, 6, 4, 3, 1<<36-1), reg(10, 1<<35, 4, -1, 0)}
	if got := s.Regions(); !slices.Equal(got, want) {
		t.Errorf("P11.2: %v", got)
	}
	s.Regions()[0].Prot = 0
	same(t, "P11.5: Store", s.Store(2*page, bytes.Repeat([]byte{1}, 2*page)), api.OK)
	same(t, "P11.2: a directory over it", s.Map(reg(2, 3, 6, 4, 0)), api.ErrArg)
	load(t, s, 2*page, 1, "\x01", api.OK)
	same(t, "P11.2: over it", s.Map(reg(2, 3, 6, 1, 1)), api.OK)
	load(t, s, 2*page, 1, "\x07", api.OK)
	load(t, s, 3*page, 1, "\x01", api.OK)
	same(t, "P11.2: noughts over it", s.Map(reg(1, 4, 6, -1, 0)), api.OK)
	load(t, s, 1*page, 3*page, string(make([]byte, 3*page)), api.OK)
	sound(t, c, s)
}

func TestManyRegions(t *testing.T) {
	c := over(t, 9)
	s := made(t, c)
	for i := range uint64(64) {
		same(t, "P11.2: Map", s.Map(reg(4*i, 4*i+3, 6, -1, 0)), api.OK)
	}
	old := s.Regions()
	same(t, "P11.2: a 65th", s.Map(reg(999, 1000, 6, -1, 0)), api.ErrMany)
	same(t, "P11.2: a 65th, of a directory", s.Map(reg(999, 1000, 6, 4, 0)), api.ErrMany)
	same(t, "P11.3: Unmap", s.Unmap(page, 2*page), api.ErrMany)
	same(t, "P11.3: Protect", s.Protect(page, 2*page, 4), api.ErrMany)
	if !slices.Equal(s.Regions(), old) {
		t.Errorf("P11.9: %v", s.Regions())
	}
}

func TestUnmapAndProtect(t *testing.T) {
	c := over(t, 40)
	s := made(t, c)
	same(t, "Map", s.Map(reg(1, 7, 6, -1, 0)), api.OK)
	same(t, "Store", s.Store(page, bytes.Repeat([]byte{5}, 6*page)), api.OK)
	same(t, "P11.3: Unmap", s.Unmap(3*page, 4*page), api.OK)
	load(t, s, 3*page-1, 1, "\x05", api.OK)
	load(t, s, 3*page, 1, "", api.ErrFault)
	load(t, s, 4*page, 1, "\x05", api.OK)
	load(t, s, 3*page-1, page+2, "", api.ErrFault)
	same(t, "Map", s.Map(reg(3, 4, 6, -1, 0)), api.OK)
	load(t, s, 3*page-1, 2, "\x05\x00", api.OK)
	for _, x := range [][2]uint64{{page + 1, 2 * page}, {2 * page, 2 * page}, {3 * page, 2 * page}, {0, most}, {0, api.UserEnd + page}} {
		same(t, "P11.3: Unmap", s.Unmap(x[0], x[1]), api.ErrArg)
		same(t, "P11.3: Protect", s.Protect(x[0], x[1], 4), api.ErrArg)
	}
	same(t, "P11.3: Protect", s.Protect(page, 2*page, 8), api.ErrArg)
	same(t, "P11.3: Protect", s.Protect(0, 2*page, 4), api.ErrFault)
	same(t, "P11.3: Protect", s.Protect(2*page, 4*page, 1), api.OK)
	for _, put := range s.Table().All() {
		want := uint8(6)
		if put.Addr/page == 2 || put.Addr/page == 3 {
			want = 1
		}
		if put.Leaf.Prot != want {
			t.Errorf("P11.3: the leaf at %#x: %d", put.Addr, put.Leaf.Prot)
		}
	}
	load(t, s, 2*page, 1, "", api.ErrFault)
	peek(t, s, 2*page, 1, "\x05", api.OK)
	same(t, "P11.3: Unmap of all", s.Unmap(0, api.UserEnd), api.OK)
	if len(s.Table().All()) != 0 || len(s.Regions()) != 0 || c.Pool().Free() != 39 {
		t.Error("P11.3: Unmap of all")
	}
}

func TestLoadEdges(t *testing.T) {
	c := over(t, 40)
	s := made(t, c)
	same(t, "Map", s.Map(reg(1, 18, 4, 2, 0)), api.OK)
	same(t, "Map", s.Map(reg(18, 19, 2, -1, 0)), api.OK)
	same(t, "Map", s.Map(reg(19, 20, 1, -1, 0)), api.OK)
	same(t, "Map", s.Map(reg(1<<35-1, 1<<35, 4, -1, 0)), api.OK)
	whole, _ := c.Files().Read(2, 0, 65536)
	load(t, s, page, 65536, string(whole), api.OK)
	load(t, s, page+1, 65535, string(whole[1:]), api.OK)
	load(t, s, 2*page+5, 65536, "", api.ErrFault)
	load(t, s, page, 65537, "", api.ErrArg)
	load(t, s, 0, 65537, "", api.ErrArg)
	load(t, s, page, -1, "", api.ErrArg)
	load(t, s, page, 1<<62, "", api.ErrArg)
	load(t, s, 17*page, page, string(make([]byte, page)), api.OK)
	load(t, s, 18*page-1, 2, "", api.ErrFault)
	load(t, s, 18*page, 1, "", api.ErrFault)
	load(t, s, 19*page, 1, "", api.ErrFault)
	peek(t, s, 18*page-1, 2, "\x00\x00", api.OK)
	peek(t, s, 20*page-1, 2, "", api.ErrFault)
	load(t, s, api.UserEnd-1, 1, "\x00", api.OK)
	load(t, s, api.UserEnd-1, 2, "", api.ErrFault)
	load(t, s, api.UserEnd, 0, "", api.OK)
	load(t, s, api.UserEnd+1, 0, "", api.ErrFault)
	load(t, s, api.UserEnd, 1, "", api.ErrFault)
	load(t, s, most, 1, "", api.ErrFault)
	load(t, s, most, 2, "", api.ErrFault)
	load(t, s, most, 0, "", api.ErrFault)
	load(t, s, 0, 0, "", api.OK)
	load(t, s, page-1, 2, "", api.ErrFault)
	peek(t, s, page-1, 2, "", api.ErrFault)
	peek(t, s, page, 65537, "", api.ErrArg)
	peek(t, s, page, -1, "", api.ErrArg)
}

func TestStoreEdges(t *testing.T) {
	c := over(t, 60)
	s := made(t, c)
	same(t, "Map", s.Map(reg(1, 19, 2, 2, 0)), api.OK)
	same(t, "Map", s.Map(reg(19, 20, 5, -1, 0)), api.OK)
	same(t, "Map", s.Map(reg(1<<35-1, 1<<35, 2, -1, 0)), api.OK)
	big := bytes.Repeat([]byte{3}, 65536)
	same(t, "P11.5: Store", s.Store(page+7, append(big, 1)), api.ErrArg)
	same(t, "P11.5: Poke", s.Poke(page+7, append(big, 1)), api.ErrArg)
	same(t, "P11.5: Store", s.Store(0, append(big, 1)), api.ErrArg)
	same(t, "P11.5: Store", s.Store(page+7, big), api.OK)
	peek(t, s, page+7, 65536, string(big), api.OK)
	whole, _ := c.Files().Read(2, 0, 7)
	peek(t, s, page, 8, string(whole)+"\x03", api.OK)
	peek(t, s, 17*page+6, 2, "\x03\x00", api.OK)
	same(t, "P11.5: Store", s.Store(19*page-1, []byte{1, 2}), api.ErrFault)
	same(t, "P11.5: Poke", s.Poke(19*page-1, []byte{1, 2}), api.OK)
	peek(t, s, 19*page-1, 2, "\x01\x02", api.OK)
	same(t, "P11.5: Store", s.Store(page-1, []byte{1, 2}), api.ErrFault)
	same(t, "P11.5: Poke", s.Poke(page-1, []byte{1, 2}), api.ErrFault)
	same(t, "P11.5: Store", s.Store(api.UserEnd-1, []byte{1}), api.OK)
	same(t, "P11.5: Store", s.Store(api.UserEnd-1, []byte{1, 1}), api.ErrFault)
	same(t, "P11.5: Poke", s.Poke(api.UserEnd-1, []byte{1, 1}), api.ErrFault)
	same(t, "P11.5: Store", s.Store(most, []byte{1, 1}), api.ErrFault)
	same(t, "P11.5: Store of none", s.Store(page, nil), api.OK)
	same(t, "P11.5: Store of none", s.Store(0, nil), api.OK)
	b := []byte{1}
	same(t, "P11.5: Store", s.Store(page, b), api.OK)
	b[0] = 9
	got, _ := s.Peek(page, 1)
	got[0] = 8
	peek(t, s, page, 1, "\x01", api.OK)
}

// TestPagesOfFiles: which pages come from the cache, and with which leaves.
func TestPagesOfFiles(t *testing.T) {
	c := over(t, 40)
	s := made(t, c)
	same(t, "Map", s.Map(reg(1, 4, 5, 2, 14)), api.OK)
	same(t, "Map", s.Map(reg(8, 9, 6, -1, 0)), api.OK)
	load(t, s, 3*page-1, 2, "\x27\x00", api.OK) // the page 15, and the page 16, which has no place in the cache
	load(t, s, 8*page, 1, "\x00", api.OK)
	all := s.Table().All()
	slots := c.Slots()
	if len(all) != 3 || len(slots) != 1 || slots[0].Page != 15 {
		t.Fatalf("P11.4: %v, %v", all, slots)
	}
	for i, want := range []api.Leaf{{Frame: slots[0].Frame, Prot: 5, Copy: true}, {Frame: all[1].Leaf.Frame, Prot: 5}, {Frame: all[2].Leaf.Frame, Prot: 6}} {
		if all[i].Leaf != want {
			t.Errorf("P11.4: the leaf %v, want %v", all[i], want)
		}
	}
	if n := c.Pool().Count(all[1].Leaf.Frame); n != 1 {
		t.Errorf("P11.9: noughts are counted %d times", n)
	}
	other := made(t, c)
	same(t, "Map", other.Map(reg(77, 78, 6, 2, 15)), api.OK)
	peek(t, other, 78*page-1, 1, "\x27", api.OK)
	if got := other.Table().All()[0].Leaf; got.Frame != slots[0].Frame || c.Pool().Count(got.Frame) != 3 {
		t.Errorf("P11.8: a page of a file lies in one frame: %v", got)
	}
	same(t, "P11.5: Store", other.Store(77*page, []byte{1}), api.OK)
	if got := other.Table().All()[0].Leaf; got.Frame == slots[0].Frame || got.Copy || c.Pool().Count(slots[0].Frame) != 2 {
		t.Errorf("P11.5: its own frame: %v", got)
	}
	c.Drop()
	same(t, "P11.5: Poke where nobody else points to", s.Poke(2*page, []byte{1}), api.OK)
	if got := s.Table().All()[0].Leaf; got != (api.Leaf{Frame: slots[0].Frame, Prot: 5}) {
		t.Errorf("P11.5: Copy is taken off: %v", got)
	}
	sound(t, c, s, other)
}

func TestFork(t *testing.T) {
	c := over(t, 40)
	s := made(t, c)
	same(t, "Map", s.Map(reg(1, 4, 6, -1, 0)), api.OK)
	same(t, "Map", s.Map(reg(5, 6, 4, 1, 0)), api.OK)
	same(t, "Store", s.Store(page, []byte("ab")), api.OK)
	load(t, s, 5*page, 1, "\x07", api.OK)
	child, e := s.Fork()
	same(t, "P11.6: Fork", e, api.OK)
	if !slices.Equal(child.Regions(), s.Regions()) || !slices.Equal(child.Table().All(), s.Table().All()) {
		t.Error("P11.6: the same regions, the same leaves")
	}
	for _, put := range s.Table().All() {
		if !put.Leaf.Copy {
			t.Errorf("P11.6: the leaf %v", put)
		}
	}
	if len(s.Table().All()) != 2 {
		t.Error("P11.6: Fork brings pages")
	}
	same(t, "P11.5: Store of the parent", s.Store(page, []byte("xy")), api.OK)
	load(t, child, page, 2, "ab", api.OK)
	old := child.Table().All()[0].Leaf
	same(t, "P11.5: Store of the child", child.Store(page, []byte("c")), api.OK)
	if got := child.Table().All()[0].Leaf; got.Frame != old.Frame || got.Copy {
		t.Errorf("P11.5: nobody else has it: %v", got)
	}
	load(t, child, page, 2, "cb", api.OK)
	load(t, s, page, 2, "xy", api.OK)
	same(t, "P11.3: Unmap of the child", child.Unmap(page, 2*page), api.OK)
	load(t, s, page, 2, "xy", api.OK)
	sound(t, c, s, child)
	s.Free()
	sound(t, c, child)
	load(t, child, 5*page, 1, "\x07", api.OK)
	child.Free()
	c.Drop()
	if c.Pool().Free() != 40 {
		t.Errorf("P11.7: %d free", c.Pool().Free())
	}
}

// TestWithoutFrames: what is left behind each ErrNoMem.
func TestWithoutFrames(t *testing.T) {
	for n := 1; n < 16; n++ {
		c := over(t, n)
		s := made(t, c)
		same(t, "Map", s.Map(reg(1, 3, 6, -1, 0)), api.OK)
		same(t, "Map", s.Map(reg(3, 4, 6, 1, 0)), api.OK)
		e := s.Store(page, bytes.Repeat([]byte{9}, 2*page))
		sound(t, c, s)
		if e != api.OK { // a root, three nodes, two pages
			if n >= 6 || e != api.ErrNoMem || len(s.Table().All()) != max(0, n-4) {
				t.Fatalf("P11.5: of %d frames: %d, %v", n, e, s.Table().All())
			}
			for _, put := range s.Table().All() {
				load(t, s, put.Addr, page, string(make([]byte, page)), api.OK)
			}
			continue
		}
		old := s.Table().All()
		child, e := s.Fork()
		if n < 10 {
			if child != nil || e != api.ErrNoMem || !slices.Equal(s.Table().All(), old) {
				t.Fatalf("P11.6: of %d frames: %d", n, e)
			}
			sound(t, c, s)
			continue
		}
		sound(t, c, s, child)
		if e := s.Store(2*page-1, []byte{1, 1}); e != api.OK {
			if n >= 12 || e != api.ErrNoMem {
				t.Fatalf("P11.5: of %d frames: %d", n, e)
			}
			load(t, s, 2*page-1, 2, "\x09\x09", api.OK)
		}
		load(t, child, 2*page-1, 2, "\x09\x09", api.OK)
		sound(t, c, s, child)
		if got, e := s.Load(3*page, 1); e == api.OK && (n < 13 || string(got) != "\x07") || e != api.OK && n >= 13 {
			t.Fatalf("P11.4: of %d frames: %d", n, e)
		}
		sound(t, c, s, child)
	}
}

func TestErrorsChangeNothing(t *testing.T) {
	c := over(t, 40)
	s := made(t, c)
	same(t, "Map", s.Map(reg(1, 3, 6, 1, 0)), api.OK)
	load(t, s, page, 1, "\x07", api.OK)
	leaves, regs, free := s.Table().All(), s.Regions(), c.Pool().Free()
	s.Load(2*page, page+1)
	s.Store(2*page, make([]byte, page+1))
	s.Load(0, -1)
	s.Store(page, make([]byte, 70000))
	s.Map(reg(1, 2, 6, 4, 0))
	s.Unmap(3, 2)
	s.Protect(page, 5*page, 0)
	s.Peek(2*page, page+1)
	s.Poke(2*page, make([]byte, page+1))
	if !slices.Equal(s.Table().All(), leaves) || !slices.Equal(s.Regions(), regs) || c.Pool().Free() != free {
		t.Error("P11.9: an error turned something")
	}
}

// memory is a space that shares nothing: regions as a list of pages, and bytes of its own.
type memory struct {
	regs  map[uint64]api.Region // of each page, a region of that page alone
	bytes map[uint64][]byte
}

func (m *memory) fork() *memory {
	child := &memory{map[uint64]api.Region{}, map[uint64][]byte{}}
	for p, r := range m.regs {
		child.regs[p] = r
	}
	for p, b := range m.bytes {
		child.bytes[p] = slices.Clone(b)
	}
	return child
}

func (m *memory) put(r api.Region) {
	for p := r.From / page; p < r.To/page; p++ {
		m.regs[p] = api.Region{Prot: r.Prot, Ino: r.Ino, Off: r.Off + p*page - r.From}
		delete(m.bytes, p)
	}
}

func (m *memory) at(f *vfs.FS, p uint64) []byte {
	if m.bytes[p] == nil {
		b := make([]byte, page)
		if r := m.regs[p]; r.Ino >= 0 {
			data, _ := f.Read(r.Ino, int(r.Off), page)
			copy(b, data)
		}
		m.bytes[p] = b
	}
	return m.bytes[p]
}

func (m *memory) permits(addr uint64, n int, want uint8) bool {
	for a := addr; a < addr+uint64(n); a++ {
		if r, ok := m.regs[a/page]; !ok || r.Prot&want != want {
			return false
		}
	}
	return true
}

// TestPrivate: spaces that were forked from one another answer as if each had memory of its own (P11.8).
func TestPrivate(t *testing.T) {
	for _, n := range []int{400, 30} {
		r := rand.New(rand.NewSource(int64(n)))
		c := over(t, n)
		spaces, models := []*space.Space{made(t, c)}, []*memory{{map[uint64]api.Region{}, map[uint64][]byte{}}}
		failed := 0
		for step := range 4000 {
			i := r.Intn(len(spaces))
			s, m := spaces[i], models[i]
			from := uint64(r.Intn(12))
			to := from + 1 + uint64(r.Intn(3))
			addr, size := from*page+uint64(r.Intn(page)), r.Intn(2*page)
			prot := uint8(4 | r.Intn(4))
			var e api.Errno
			switch op := r.Intn(16); {
			case op == 0 && len(spaces) < 5:
				var child *space.Space
				if child, e = s.Fork(); e == api.OK {
					spaces, models = append(spaces, child), append(models, m.fork())
				}
			case op == 1 && len(spaces) > 1:
				s.Free()
				spaces, models = slices.Delete(spaces, i, i+1), slices.Delete(models, i, i+1)
			case op == 2:
				x := reg(from, to, prot, -1+r.Intn(4), 0)
				if x.Ino == 0 {
					x.Ino = -1
				} else if x.Ino > 0 {
					x.Off = uint64(r.Intn(18)) * page
				}
				if e = s.Map(x); e == api.OK {
					m.put(x)
				}
			case op == 3:
				if e = s.Unmap(from*page, to*page); e == api.OK {
					for p := from; p < to; p++ {
						delete(m.regs, p)
						delete(m.bytes, p)
					}
				}
			case op == 4:
				e = s.Protect(from*page, to*page, prot)
				if (e == api.OK) != m.permits(from*page, int(to-from)*page, 0) {
					t.Fatalf("P11.3: step %d: %d", step, e)
				}
				if e == api.OK {
					for p := from; p < to; p++ {
						x := m.regs[p]
						x.Prot = prot
						m.regs[p] = x
					}
				}
				e = api.OK
			case op == 5 && r.Intn(10) == 0:
				c.Drop()
			case op < 10:
				b := bytes.Repeat([]byte{byte(step)}, size)
				e = s.Store(addr, b)
				if (e == api.ErrFault) != !m.permits(addr, size, 2) {
					t.Fatalf("P11.5: step %d: %d", step, e)
				}
				if e == api.OK {
					for k := range b {
						m.at(c.Files(), (addr+uint64(k))/page)[(addr+uint64(k))%page] = b[k]
					}
				}
			default:
				var got []byte
				got, e = s.Load(addr, size)
				if (e == api.ErrFault) != !m.permits(addr, size, 4) {
					t.Fatalf("P11.4: step %d: %d", step, e)
				}
				for k := range got {
					if want := m.at(c.Files(), (addr+uint64(k))/page)[(addr+uint64(k))%page]; got[k] != want {
						t.Fatalf("P11.8: step %d: at %#x: %d, want %d", step, addr+uint64(k), got[k], want)
					}
				}
			}
			if e == api.ErrNoMem {
				failed++
			} else if e != api.OK && e != api.ErrFault {
				t.Fatalf("step %d: %d", step, e)
			}
			if step%10 == 0 {
				sound(t, c, spaces...)
			}
		}
		if (n == 400) != (failed == 0) {
			t.Errorf("of %d frames: %d times ErrNoMem", n, failed)
		}
		for _, slot := range c.Slots() {
			want := make([]byte, page)
			b, _ := c.Files().Read(slot.Ino, slot.Page*page, page)
			copy(want, b)
			if got, _ := c.Pool().Load(slot.Frame, 0, page); !bytes.Equal(got, want) {
				t.Errorf("P11.8: the slot %v", slot)
			}
		}
	}
}
