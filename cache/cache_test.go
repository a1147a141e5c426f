package cache_test

import (
	"bytes"
	"math/rand"
	"slices"
	"testing"

	"hostel/api"
	"hostel/cache"
	"hostel/frames"
	"hostel/vfs"
)

func files(t *testing.T) *vfs.FS {
	t.Helper()
	long := make([]byte, 65536)
	for i := range long {
		long[i] = byte(i/4096 + 1)
	}
	f, e, _ := vfs.New([]api.Entry{{Path: "/one", Kind: 1, Data: bytes.Repeat([]byte{1}, 5000)}, {Path: "/two", Kind: 1}, {Path: "/long", Kind: 1, Data: long}, {Path: "/l", Kind: 3, To: "one"}})
	if e != api.OK {
		t.Fatal(e)
	}
	return f
}

func made(t *testing.T, n int) (*cache.Cache, *frames.Pool) {
	t.Helper()
	p, _ := frames.New(n)
	c, e := cache.New(p, files(t))
	if c == nil || e != api.OK {
		t.Fatalf("P8.1: New: %d", e)
	}
	return c, p
}

func get(t *testing.T, c *cache.Cache, ino, page, want int, e api.Errno) {
	t.Helper()
	if f, err := c.Get(ino, page); f != want || err != e {
		t.Errorf("P8.3: Get(%d, %d): %d, %d, want %d, %d", ino, page, f, err, want, e)
	}
}

func take(t *testing.T, c *cache.Cache, want int, e api.Errno) {
	t.Helper()
	if f, err := c.Take(); f != want || err != e {
		t.Errorf("P8.2: Take: %d, %d, want %d, %d", f, err, want, e)
	}
}

func slots(t *testing.T, c *cache.Cache, want ...cache.Slot) {
	t.Helper()
	if got := c.Slots(); !slices.Equal(got, want) {
		t.Errorf("P8.4: Slots: %v, want %v", got, want)
	}
}

func TestNew(t *testing.T) {
	p, _ := frames.New(1)
	f := files(t)
	c, e := cache.New(p, f)
	if e != api.OK || c.Pool() != p || c.Files() != f || len(c.Slots()) != 0 || p.Free() != 1 {
		t.Errorf("P8.1: New: %d", e)
	}
	if c, e := cache.New(nil, f); c != nil || e != api.ErrNil {
		t.Errorf("P8.1: without a pool: %d", e)
	}
	if c, e := cache.New(p, nil); c != nil || e != api.ErrNil {
		t.Errorf("P8.1: without files: %d", e)
	}
}

func TestExamples(t *testing.T) {
	c, p := made(t, 2)
	get(t, c, 1, 0, 0, api.OK)
	get(t, c, 1, 1, 1, api.OK)
	get(t, c, 1, 0, 0, api.OK)
	want := append(bytes.Repeat([]byte{1}, 904), make([]byte, 4096-904)...)
	if b, _ := p.Load(1, 0, 4096); !bytes.Equal(b, want) {
		t.Error("P8.3: the second page")
	}
	slots(t, c, cache.Slot{Ino: 1, Page: 0, Frame: 0}, cache.Slot{Ino: 1, Page: 1, Frame: 1})
	get(t, c, 2, 0, 1, api.OK)
	if b, _ := p.Load(1, 0, 4096); !bytes.Equal(b, make([]byte, 4096)) {
		t.Error("P8.3: noughts behind the file's end")
	}
	slots(t, c, cache.Slot{Ino: 1, Page: 0, Frame: 0}, cache.Slot{Ino: 2, Page: 0, Frame: 1})
	p.Up(0)
	p.Up(1)
	take(t, c, 0, api.ErrNoMem)
	get(t, c, 1, 5, 0, api.ErrNoMem)
	slots(t, c, cache.Slot{Ino: 1, Page: 0, Frame: 0}, cache.Slot{Ino: 2, Page: 0, Frame: 1})
	c.Drop()
	slots(t, c)
	if p.Count(0) != 1 || p.Count(1) != 1 {
		t.Errorf("P8.4: Drop: %d, %d", p.Count(0), p.Count(1))
	}
}

func TestGet(t *testing.T) {
	c, p := made(t, 40)
	for _, x := range []struct {
		ino, page int
		e         api.Errno
	}{{9, 0, api.ErrNoEnt}, {1, 16, api.ErrArg}, {0, 0, api.ErrIsDir}, {4, 0, api.ErrArg}, {-1, 0, api.ErrNoEnt}, {1, -1, api.ErrArg}, {9, 16, api.ErrArg}, {0, -1, api.ErrArg}, {1, 1 << 60, api.ErrArg}, {0, 15, api.ErrIsDir}} {
		get(t, c, x.ino, x.page, 0, x.e)
	}
	if p.Free() != 40 {
		t.Errorf("P8.3: a frame went: %d", p.Free())
	}
	for page := range 16 {
		get(t, c, 3, page, page, api.OK)
		if b, _ := p.Load(page, 0, 4096); !bytes.Equal(b, bytes.Repeat([]byte{byte(page + 1)}, 4096)) {
			t.Errorf("P8.3: the page %d", page)
		}
	}
	get(t, c, 1, 15, 16, api.OK)
	for page := range 16 {
		get(t, c, 3, page, page, api.OK)
		if p.Count(page) != 1 {
			t.Errorf("P8.3: a slot counts its frame %d times", p.Count(page))
		}
	}
	if len(c.Slots()) != 17 || p.Free() != 23 {
		t.Errorf("P8.3: %d slots, %d free", len(c.Slots()), p.Free())
	}
}

func TestTheOldestLooseSlotGoes(t *testing.T) {
	c, p := made(t, 3)
	get(t, c, 3, 0, 0, api.OK)
	get(t, c, 3, 1, 1, api.OK)
	get(t, c, 3, 2, 2, api.OK)
	get(t, c, 3, 0, 0, api.OK) // asked for again: 1 is the oldest now
	take(t, c, 1, api.OK)
	if b, _ := p.Load(1, 0, 2); string(b) != "\x00\x00" || p.Count(1) != 1 {
		t.Errorf("P8.2: what was taken: %v, %d", b, p.Count(1))
	}
	slots(t, c, cache.Slot{Ino: 3, Page: 0, Frame: 0}, cache.Slot{Ino: 3, Page: 2, Frame: 2})
	p.Up(2)
	get(t, c, 1, 0, 0, api.OK) // 2 is not loose: 0 goes, though it was asked for later
	slots(t, c, cache.Slot{Ino: 1, Page: 0, Frame: 0}, cache.Slot{Ino: 3, Page: 2, Frame: 2})
	p.Up(0)
	take(t, c, 0, api.ErrNoMem)
	p.Down(2)
	take(t, c, 2, api.OK)
	slots(t, c, cache.Slot{Ino: 1, Page: 0, Frame: 0})
	take(t, c, 0, api.ErrNoMem)
	p.Down(1)
	take(t, c, 1, api.OK) // a free frame goes ahead of any slot
	slots(t, c, cache.Slot{Ino: 1, Page: 0, Frame: 0})
}

func TestAFreeFrameFirst(t *testing.T) {
	c, p := made(t, 3)
	get(t, c, 1, 0, 0, api.OK)
	get(t, c, 1, 1, 1, api.OK)
	take(t, c, 2, api.OK)
	p.Up(0)
	p.Down(0)
	slots(t, c, cache.Slot{Ino: 1, Page: 0, Frame: 0}, cache.Slot{Ino: 1, Page: 1, Frame: 1})
	if e := p.Down(2); e != api.OK {
		t.Error(e)
	}
	get(t, c, 9, 0, 0, api.ErrNoEnt)
	get(t, c, 1, 1, 1, api.OK)
	take(t, c, 2, api.OK)
	take(t, c, 0, api.OK) // the failing Get did not make anything younger, the second one made page 1 younger
	slots(t, c, cache.Slot{Ino: 1, Page: 1, Frame: 1})
}

func TestSlotsRise(t *testing.T) {
	c, _ := made(t, 40)
	r := rand.New(rand.NewSource(8))
	for range 200 {
		c.Get([]int{1, 2, 3}[r.Intn(3)], r.Intn(16))
	}
	got := c.Slots()
	for i := 1; i < len(got); i++ {
		if a, b := got[i-1], got[i]; a.Ino > b.Ino || a.Ino == b.Ino && a.Page >= b.Page {
			t.Errorf("P8.4: %v ahead of %v", a, b)
		}
	}
	got[0].Ino = 77
	if c.Slots()[0].Ino == 77 {
		t.Error("R3: Slots are shared")
	}
}

func TestNil(t *testing.T) {
	var c *cache.Cache
	if c.Pool() != nil || c.Files() != nil || len(c.Slots()) != 0 {
		t.Error("P8.1, P8.4: of nil")
	}
	take(t, c, 0, api.ErrNil)
	get(t, c, -1, -1, 0, api.ErrNil)
	c.Drop()
}

// TestSlotsStayRight: what a slot holds is the file's page; Take finds a frame just if one is free or a slot is loose; the one that goes is the oldest loose one (P8.5).
func TestSlotsStayRight(t *testing.T) {
	type key struct{ ino, page int }
	c, p := made(t, 7)
	f := c.Files()
	r := rand.New(rand.NewSource(88))
	var order []key // the slots, in the order in which they were asked for
	ups := map[int]int{}
	frameOf := func(k key) int {
		for _, s := range c.Slots() {
			if s.Ino == k.ino && s.Page == k.page {
				return s.Frame
			}
		}
		return -1
	}
	gone := func() bool { // what Take's need of a frame does to the slots
		if p.Free() > 0 {
			return true
		}
		for i, k := range order {
			if p.Count(frameOf(k)) == 1 {
				order = slices.Delete(order, i, i+1)
				return true
			}
		}
		return false
	}
	for step := range 5000 {
		switch r.Intn(8) {
		case 0:
			ok := gone()
			got, e := c.Take()
			if (e == api.OK) != ok {
				t.Fatalf("P8.5: step %d: Take: %d", step, e)
			}
			if ok {
				ups[got]++
			}
		case 1, 2:
			for fr := range 7 {
				if ups[fr] > 0 && r.Intn(2) == 0 {
					p.Down(fr)
					ups[fr]--
				}
			}
		case 3:
			if fr := r.Intn(7); p.Up(fr) == api.OK {
				ups[fr]++
			}
		case 4:
			if r.Intn(20) == 0 {
				c.Drop()
				order = nil
			}
		default:
			k := key{1 + r.Intn(3), r.Intn(3)}
			ok := true
			if i := slices.Index(order, k); i >= 0 {
				order = slices.Delete(order, i, i+1)
			} else {
				ok = gone()
			}
			if _, e := c.Get(k.ino, k.page); (e == api.OK) != ok {
				t.Fatalf("P8.3: step %d: Get: %d", step, e)
			}
			if ok {
				order = append(order, k)
			}
		}
		if len(c.Slots()) != len(order) {
			t.Fatalf("P8.5: step %d: %v, want %v", step, c.Slots(), order)
		}
		for _, s := range c.Slots() {
			want := make([]byte, 4096)
			b, _ := f.Read(s.Ino, s.Page*4096, 4096)
			copy(want, b)
			if got, _ := p.Load(s.Frame, 0, 4096); !slices.Contains(order, key{s.Ino, s.Page}) || !bytes.Equal(got, want) || p.Count(s.Frame) != ups[s.Frame]+1 {
				t.Fatalf("P8.5: step %d: the slot %v", step, s)
			}
		}
	}
}
