package table_test

import (
	"encoding/binary"
	"math/rand"
	"slices"
	"testing"

	"hostel/api"
	"hostel/cache"
	"hostel/frames"
	"hostel/table"
	"hostel/vfs"
)

const most = 1<<64 - 1

func over(t *testing.T, n int) (*cache.Cache, *frames.Pool) {
	t.Helper()
	p, _ := frames.New(n)
	f, e, _ := vfs.New([]api.Entry{{Path: "/f", Kind: 1, Data: make([]byte, 65536)}})
	if e != api.OK {
		t.Fatal(e)
	}
	c, _ := cache.New(p, f)
	return c, p
}

// example is the table of the chapter's examples: the root is the frame 0, the frame 1 is held.
func example(t *testing.T, n int) (*table.Table, *cache.Cache, *frames.Pool) {
	t.Helper()
	c, p := over(t, n)
	table, e := table.New(c)
	if table == nil || e != api.OK || p.Count(0) != 1 {
		t.Fatalf("P9.1: New: %d", e)
	}
	if f, _ := c.Take(); f != 1 {
		t.Fatalf("the held frame: %d", f)
	}
	return table, c, p
}

func leaf(frame int, prot uint8, ahead bool) api.Leaf {
	return api.Leaf{Frame: frame, Prot: prot, Copy: ahead}
}

func same(t *testing.T, what string, got, want api.Errno) {
	t.Helper()
	if got != want {
		t.Errorf("%s: %d, want %d", what, got, want)
	}
}

func find(t *testing.T, x *table.Table, addr uint64, want api.Leaf, e api.Errno) {
	t.Helper()
	if got, err := x.Find(addr); got != want || err != e {
		t.Errorf("P9.4: Find(%#x): %v, %d, want %v, %d", addr, got, err, want, e)
	}
}

func word(p *frames.Pool, frame, i int) uint64 {
	b, e := p.Load(frame, 8*i, 8)
	if e != api.OK {
		return most
	}
	return binary.LittleEndian.Uint64(b)
}

func TestExamples(t *testing.T) {
	x, _, p := example(t, 8)
	same(t, "P9.2: Map", x.Map(4096, leaf(1, 6, false)), api.OK)
	if got := x.Nodes(); !slices.Equal(got, []int{0, 2, 3, 4}) {
		t.Errorf("P9.5: Nodes: %v", got)
	}
	for _, w := range []struct {
		frame, i int
		want     uint64
	}{{4, 1, 0x100d}, {0, 0, 0x2001}, {2, 0, 0x3001}, {3, 0, 0x4001}, {4, 0, 0}, {0, 1, 0}} {
		if got := word(p, w.frame, w.i); got != w.want {
			t.Errorf("P9.2: word %d of the frame %d: %#x", w.i, w.frame, got)
		}
	}
	same(t, "P9.2: Map again", x.Map(4096, leaf(1, 4, false)), api.ErrThere)
	same(t, "P9.2: Map within a page", x.Map(4097, leaf(1, 4, false)), api.ErrArg)
	same(t, "P9.2: Map of a free frame", x.Map(0, leaf(7, 4, false)), api.ErrArg)
	find(t, x, 5000, leaf(1, 6, false), api.OK)
	same(t, "P9.4: Set", x.Set(4099, leaf(1, 4, true)), api.OK)
	find(t, x, 4096, leaf(1, 4, true), api.OK)
	if got := word(p, 4, 1); got != 0x1019 {
		t.Errorf("P9.4: the word: %#x", got)
	}
	same(t, "P9.2: Map far away", x.Map(1<<40, leaf(1, 1, false)), api.OK)
	if got := x.Nodes(); !slices.Equal(got, []int{0, 2, 3, 4, 5, 6, 7}) || p.Free() != 0 || p.Count(1) != 3 {
		t.Errorf("P9.2: Nodes: %v, %d", got, p.Count(1))
	}
	if got := x.All(); !slices.Equal(got, []api.Put{{Addr: 4096, Leaf: leaf(1, 4, true)}, {Addr: 1 << 40, Leaf: leaf(1, 1, false)}}) {
		t.Errorf("P9.5: All: %v", got)
	}
	same(t, "P9.3: Unmap", x.Unmap(4096), api.OK)
	if p.Free() != 3 || p.Count(1) != 2 || word(p, 0, 0) != 0 {
		t.Errorf("P9.3: %d free", p.Free())
	}
	same(t, "P9.3: Unmap again", x.Unmap(4096), api.ErrFault)
	find(t, x, 1<<47, api.Leaf{}, api.ErrArg)
}

func TestWhatIsNotRight(t *testing.T) {
	x, _, p := example(t, 9)
	same(t, "Map", x.Map(8192, leaf(1, 7, true)), api.OK)
	find(t, x, 8192, leaf(1, 7, true), api.OK)
	for _, l := range []api.Leaf{leaf(1, 8, false), leaf(1, 255, false), leaf(-1, 1, false), leaf(9, 1, false), leaf(8, 1, false), leaf(1<<40, 1, false)} {
		same(t, "P9.2: Map", x.Map(0, l), api.ErrArg)
		same(t, "P9.2: Map where one is", x.Map(8192, l), api.ErrArg)
		same(t, "P9.4: Set", x.Set(8192, l), api.ErrArg)
		same(t, "P9.4: Set where none is", x.Set(0, l), api.ErrArg)
	}
	for _, addr := range []uint64{1 << 47, 1<<47 + 8192, most, most - 4095, 1 << 63, 1<<48 + 8192} {
		same(t, "P9.2: Map", x.Map(addr, leaf(1, 1, false)), api.ErrArg)
		same(t, "P9.4: Set", x.Set(addr, leaf(1, 1, false)), api.ErrArg)
		same(t, "P9.3: Unmap", x.Unmap(addr), api.ErrArg)
		find(t, x, addr, api.Leaf{}, api.ErrArg)
	}
	for _, addr := range []uint64{0, 4096, 8191, 12288, 1<<47 - 1, 8192 + 1<<21, 8192 + 1<<30, 8192 + 1<<39} {
		same(t, "P9.4: Set", x.Set(addr, leaf(1, 1, false)), api.ErrFault)
		same(t, "P9.3: Unmap", x.Unmap(addr), api.ErrFault)
		find(t, x, addr, api.Leaf{}, api.ErrFault)
	}
	same(t, "P9.2: Map within a page that is there", x.Map(8193, leaf(1, 1, false)), api.ErrArg)
	if p.Count(1) != 2 || p.Free() != 4 || len(x.All()) != 1 {
		t.Errorf("R2: errors turned something: %d, %d", p.Count(1), p.Free())
	}
	same(t, "P9.2: the last page", x.Map(1<<47-4096, leaf(1, 0, false)), api.OK)
	find(t, x, 1<<47-1, leaf(1, 0, false), api.OK)
	same(t, "P9.3: Unmap within a page", x.Unmap(1<<47-1), api.OK)
	same(t, "P9.3: Unmap within a page", x.Unmap(8200), api.OK)
	if p.Count(1) != 1 || p.Free() != 7 || !slices.Equal(x.Nodes(), []int{0}) {
		t.Errorf("P9.3: %d, %d, %v", p.Count(1), p.Free(), x.Nodes())
	}
}

func TestNew(t *testing.T) {
	if x, e := table.New(nil); x != nil || e != api.ErrNil {
		t.Errorf("P9.1: without a cache: %d", e)
	}
	c, p := over(t, 1)
	x, e := table.New(c)
	if e != api.OK || !slices.Equal(x.Nodes(), []int{0}) || len(x.All()) != 0 || p.Count(0) != 1 {
		t.Errorf("P9.1: New: %d", e)
	}
	if y, e := table.New(c); y != nil || e != api.ErrNoMem {
		t.Errorf("P9.1: without a frame: %d", e)
	}
}

func TestMapWithoutFrames(t *testing.T) {
	for free := range 3 {
		x, c, p := example(t, 2+free)
		old := make([][]byte, 2)
		for f := range old {
			old[f], _ = p.Load(f, 0, 4096)
		}
		same(t, "P9.2: Map", x.Map(4096, leaf(1, 6, false)), api.ErrNoMem)
		if p.Free() != free || p.Count(1) != 1 || !slices.Equal(x.Nodes(), []int{0}) || len(x.All()) != 0 {
			t.Errorf("P9.2: of %d free frames: %d, %d, %v", free, p.Free(), p.Count(1), x.Nodes())
		}
		for f := range old {
			if b, _ := p.Load(f, 0, 4096); !slices.Equal(b, old[f]) {
				t.Errorf("P9.2: the frame %d was turned", f)
			}
		}
		if f, e := c.Take(); free > 0 && (f != 2 || e != api.OK) {
			t.Errorf("P9.2: Take: %d, %d", f, e)
		}
	}
	x, _, p := example(t, 6)
	same(t, "Map", x.Map(0, leaf(1, 6, false)), api.OK)
	same(t, "P9.2: one of two nodes", x.Map(1<<30, leaf(1, 6, false)), api.ErrNoMem)
	if p.Free() != 1 || p.Count(1) != 2 || !slices.Equal(x.Nodes(), []int{0, 2, 3, 4}) || word(p, 2, 1) != 0 {
		t.Errorf("P9.2: %d, %d, %v", p.Free(), p.Count(1), x.Nodes())
	}
	same(t, "P9.2: one node", x.Map(1<<21, leaf(1, 6, false)), api.OK)
	same(t, "P9.2: no node", x.Map(4096, leaf(1, 6, false)), api.OK)
	same(t, "P9.2: where one is, without frames", x.Map(4096, leaf(1, 6, false)), api.ErrThere)
	if got := x.Nodes(); !slices.Equal(got, []int{0, 2, 3, 4, 5}) {
		t.Errorf("P9.5: Nodes: %v", got)
	}
}

// TestLooseSlotsGo: nodes are taken of the cache, and the leaf's own frame is no loose slot's meanwhile.
func TestLooseSlotsGo(t *testing.T) {
	c, p := over(t, 5)
	x, _ := table.New(c)
	for page := range 4 {
		if _, e := c.Get(1, page); e != api.OK {
			t.Fatal(e)
		}
	}
	same(t, "P9.2: Map of the oldest slot's frame", x.Map(0, leaf(1, 6, true)), api.OK)
	if got := x.Nodes(); !slices.Equal(got, []int{0, 2, 3, 4}) {
		t.Errorf("P9.2: Nodes: %v", got)
	}
	if got := c.Slots(); !slices.Equal(got, []cache.Slot{{Ino: 1, Page: 0, Frame: 1}}) || p.Count(1) != 2 {
		t.Errorf("P9.2: Slots: %v", got)
	}
}

func TestSet(t *testing.T) {
	x, c, p := example(t, 9)
	other, _ := c.Take()
	same(t, "Map", x.Map(0, leaf(1, 6, false)), api.OK)
	same(t, "Map", x.Map(4096, leaf(1, 5, true)), api.OK)
	same(t, "P9.4: Set to another frame", x.Set(17, leaf(other, 3, true)), api.OK)
	if p.Count(1) != 2 || p.Count(other) != 2 {
		t.Errorf("P9.4: %d, %d", p.Count(1), p.Count(other))
	}
	find(t, x, 0, leaf(other, 3, true), api.OK)
	find(t, x, 4096, leaf(1, 5, true), api.OK)
	p.Down(other)
	same(t, "P9.4: Set to the same frame, which nobody else points to", x.Set(0, leaf(other, 3, false)), api.OK)
	if p.Count(other) != 1 {
		t.Errorf("P9.4: %d", p.Count(other))
	}
	find(t, x, 0, leaf(other, 3, false), api.OK)
	same(t, "P9.4: Set away", x.Set(0, leaf(1, 3, false)), api.OK)
	if p.Count(other) != 0 || p.Count(1) != 3 {
		t.Errorf("P9.4: %d, %d", p.Count(other), p.Count(1))
	}
}

func TestFreeAndNil(t *testing.T) {
	x, _, p := example(t, 20)
	for _, addr := range []uint64{0, 4096, 1 << 21, 1 << 30, 1 << 39, 1<<47 - 4096} {
		same(t, "Map", x.Map(addr, leaf(1, 6, false)), api.OK)
	}
	x.Free()
	if p.Free() != 19 || p.Count(1) != 1 {
		t.Errorf("P9.6: Free: %d, %d", p.Free(), p.Count(1))
	}
	p.Up(1)
	x.Free()
	if p.Count(1) != 2 {
		t.Errorf("P9.6: Free again: %d", p.Count(1))
	}
	for _, x := range []*table.Table{nil, x} {
		same(t, "Map", x.Map(1, leaf(-1, 9, false)), api.ErrNil)
		same(t, "Unmap", x.Unmap(most), api.ErrNil)
		same(t, "Set", x.Set(most, leaf(1, 1, false)), api.ErrNil)
		find(t, x, 0, api.Leaf{}, api.ErrNil)
		x.Free()
		if len(x.All()) != 0 || len(x.Nodes()) != 0 {
			t.Error("P9.5: of no table")
		}
	}
}

// check holds a table against what was done to it: leaves, nodes, words and counts (P9.5, P9.7).
func check(t *testing.T, x *table.Table, p *frames.Pool, want map[uint64]api.Leaf) {
	t.Helper()
	all := x.All()
	if len(all) != len(want) {
		t.Fatalf("P9.7: %d leaves, want %d", len(all), len(want))
	}
	nodes := map[uint64]bool{}
	leaves := map[int]int{}
	for i, put := range all {
		if i > 0 && all[i-1].Addr >= put.Addr || want[put.Addr] != put.Leaf {
			t.Fatalf("P9.5: leaf %d: %v, want %v", i, put, want[put.Addr])
		}
		leaves[put.Leaf.Frame]++
		for shift := 21; shift <= 48; shift += 9 {
			nodes[put.Addr>>shift<<8|uint64(shift)] = true
		}
	}
	nodes[48] = true
	if got := x.Nodes(); len(got) != len(nodes) || got[0] != 0 {
		t.Fatalf("P9.7: %d nodes, want %d", len(got), len(nodes))
	}
	for _, n := range x.Nodes() {
		if p.Count(n) != 1 {
			t.Fatalf("P9.7: the node %d is counted %d times", n, p.Count(n))
		}
	}
	for f := 1; f <= 3; f++ {
		if p.Count(f) != leaves[f]+1 {
			t.Fatalf("P9.7: the frame %d is counted %d times", f, p.Count(f))
		}
	}
	if p.Free() != p.Size()-len(nodes)-3 {
		t.Fatalf("P9.7: %d free", p.Free())
	}
}

func TestManyLeaves(t *testing.T) {
	x, c, p := example(t, 40)
	c.Take()
	c.Take()
	r := rand.New(rand.NewSource(9))
	want := map[uint64]api.Leaf{}
	for range 3000 {
		addr := uint64(r.Intn(3))<<12 | uint64(r.Intn(2))<<21 | uint64(r.Intn(2))<<30 | uint64(r.Intn(2)*255)<<39
		l := leaf(1+r.Intn(3), uint8(r.Intn(8)), r.Intn(2) == 0)
		old, there := want[addr]
		switch r.Intn(5) {
		case 0, 1:
			e := x.Map(addr, l)
			switch {
			case there:
				same(t, "P9.2: Map", e, api.ErrThere)
			case e == api.OK:
				want[addr] = l
			default:
				same(t, "P9.2: Map", e, api.ErrNoMem)
			}
		case 2, 3:
			if e := x.Unmap(addr + uint64(r.Intn(4096))); (e == api.OK) != there {
				t.Fatalf("P9.3: Unmap: %d", e)
			}
			delete(want, addr)
		default:
			if e := x.Set(addr, l); (e == api.OK) != there {
				t.Fatalf("P9.4: Set: %d", e)
			}
			if there {
				find(t, x, addr, l, api.OK)
				want[addr] = l
				old = l
			}
		}
		if l, e := x.Find(addr); (e == api.OK) != (want[addr] != api.Leaf{}) || there && e == api.OK && l != old {
			t.Fatalf("P9.4: Find: %v, %d", l, e)
		}
		check(t, x, p, want)
	}
	x.Free()
	if p.Free() != 37 {
		t.Errorf("P9.6: %d free", p.Free())
	}
}
