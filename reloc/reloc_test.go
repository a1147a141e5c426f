package reloc_test

import (
	"reflect"
	"slices"
	"testing"

	"hostel/api"
	"hostel/reloc"
)

const top = 1<<64 - 1

func load(flags uint8, addr, memsz uint64) api.Seg {
	return api.Seg{Kind: 1, Flags: flags, Addr: addr, Off: addr % 4096, Memsz: memsz}
}

func object(base uint64, segs ...api.Seg) api.Object {
	return api.Object{Base: base, Head: api.Head{Type: 3, Segs: segs}}
}

// example is the object of the chapter's examples, with one relocation.
func example(r ...api.Rela) api.Object {
	o := object(0x1000, load(6, 0, 0x100))
	o.Dyn.Syms = []api.Sym{{Name: "f", Value: 0x20, Bind: 1, Def: true}}
	o.Dyn.Relas = r
	return o
}

func TestOne(t *testing.T) {
	for _, x := range []struct {
		name string
		r    api.Rela
		want api.Patch
		e    api.Errno
	}{
		{"word", api.Rela{Off: 8, Type: 1, Sym: 1, Add: 2}, api.Patch{Addr: 0x1008, Size: 8, Value: 0x1022}, 0}, {"word without a symbol", api.Rela{Off: 8, Type: 1, Add: -2}, api.Patch{Addr: 0x1008, Size: 8, Value: top - 1}, 0}, {"word that wraps", api.Rela{Off: 8, Type: 1, Sym: 1, Add: -0x1021}, api.Patch{Addr: 0x1008, Size: 8, Value: top}, 0},
		{"near", api.Rela{Off: 8, Type: 2, Sym: 1, Add: -4}, api.Patch{Addr: 0x1008, Size: 4, Value: 0x14}, 0}, {"near without a symbol", api.Rela{Off: 8, Type: 2}, api.Patch{Addr: 0x1008, Size: 4, Value: 0xffffeff8}, 0},
		{"near, the most", api.Rela{Off: 8, Type: 2, Add: 0x1008 + 1<<31 - 1}, api.Patch{Addr: 0x1008, Size: 4, Value: 1<<31 - 1}, 0}, {"near, more", api.Rela{Off: 8, Type: 2, Add: 0x1008 + 1<<31}, api.Patch{}, api.ErrRel}, {"near, the least", api.Rela{Off: 8, Type: 2, Add: 0x1008 - 1<<31}, api.Patch{Addr: 0x1008, Size: 4, Value: 1 << 31}, 0}, {"near, less", api.Rela{Off: 8, Type: 2, Add: 0x1008 - 1<<31 - 1}, api.Patch{}, api.ErrRel}, {"near, far away", api.Rela{Off: 8, Type: 2, Add: 1 << 62}, api.Patch{}, api.ErrRel}, {"near, the other way", api.Rela{Off: 8, Type: 2, Add: -1 << 63}, api.Patch{}, api.ErrRel},
		{"glob", api.Rela{Off: 8, Type: 6, Sym: 1, Add: 2}, api.Patch{Addr: 0x1008, Size: 8, Value: 0x1020}, 0}, {"glob without a symbol", api.Rela{Off: 8, Type: 6, Add: 2}, api.Patch{Addr: 0x1008, Size: 8}, 0}, {"jump", api.Rela{Off: 8, Type: 7, Sym: 1, Add: 2}, api.Patch{Addr: 0x1008, Size: 8, Value: 0x1020}, 0},
		{"relative", api.Rela{Off: 8, Type: 8, Add: 2}, api.Patch{Addr: 0x1008, Size: 8, Value: 0x1002}, 0}, {"relative with a symbol", api.Rela{Off: 8, Type: 8, Sym: 1, Add: -0x1001}, api.Patch{Addr: 0x1008, Size: 8, Value: top}, 0}, {"relative with a symbol that is none", api.Rela{Off: 8, Type: 8, Sym: 9, Add: 2}, api.Patch{}, api.ErrRel},
		{"symbol -1", api.Rela{Off: 8, Type: 1, Sym: -1}, api.Patch{}, api.ErrRel}, {"symbol 2", api.Rela{Off: 8, Type: 1, Sym: 2}, api.Patch{}, api.ErrRel}, {"symbol very high", api.Rela{Off: 8, Type: 1, Sym: 1 << 62}, api.Patch{}, api.ErrRel},
		{"type 0", api.Rela{Off: 8}, api.Patch{}, api.ErrRel}, {"type 3", api.Rela{Off: 8, Type: 3}, api.Patch{}, api.ErrRel}, {"type 5", api.Rela{Off: 8, Type: 5}, api.Patch{}, api.ErrRel}, {"type 9", api.Rela{Off: 8, Type: 9}, api.Patch{}, api.ErrRel}, {"type 2^32 - 1", api.Rela{Off: 8, Type: 1<<32 - 1}, api.Patch{}, api.ErrRel},
		{"over the end", api.Rela{Off: 0xf9, Type: 6, Sym: 1}, api.Patch{}, api.ErrRel}, {"up to the end", api.Rela{Off: 0xf8, Type: 6, Sym: 1}, api.Patch{Addr: 0x10f8, Size: 8, Value: 0x1020}, 0}, {"near up to the end", api.Rela{Off: 0xfc, Type: 2, Sym: 1}, api.Patch{Addr: 0x10fc, Size: 4, Value: 0xffffff24}, 0}, {"near over the end", api.Rela{Off: 0xfd, Type: 2, Sym: 1}, api.Patch{}, api.ErrRel}, {"behind", api.Rela{Off: 0x100, Type: 8}, api.Patch{}, api.ErrRel}, {"at the end of all", api.Rela{Off: top, Type: 8}, api.Patch{}, api.ErrRel}, {"that wraps", api.Rela{Off: top - 6, Type: 8}, api.Patch{}, api.ErrRel}, {"at 0", api.Rela{Type: 8}, api.Patch{Addr: 0x1000, Size: 8, Value: 0x1000}, 0},
	} {
		got, e := reloc.Patches([]api.Object{example(x.r)})
		if e != x.e || e == api.OK && !slices.Equal(got, []api.Patch{x.want}) || e != api.OK && len(got) != 0 {
			t.Errorf("P19.1: %s: %+v, %d", x.name, got, e)
		}
	}
}

func TestLoads(t *testing.T) {
	segs := []api.Seg{load(5, 0, 0x1000), load(2, 0x1000, 16), load(7, 0x2000, 16), {Kind: 2, Flags: 6, Addr: 0x5000, Memsz: 99}, load(4, 0x3000, 16)}
	for off, e := range map[uint64]api.Errno{0: api.ErrRel, 0xffc: api.ErrRel, 0x1000: api.OK, 0x1008: api.OK, 0x1009: api.ErrRel, 0x1ffc: api.ErrRel, 0x2000: api.OK, 0x2008: api.OK, 0x3000: api.ErrRel, 0x5000: api.ErrRel} {
		o := object(0, segs...)
		o.Dyn.Relas = []api.Rela{{Off: off, Type: 8}}
		if got, err := reloc.Patches([]api.Object{o}); err != e || len(got) != map[bool]int{true: 1}[e == api.OK] {
			t.Errorf("P19.1: at %#x: %d", off, err)
		}
	}
	two := object(0, load(6, 0, 0x1000), load(6, 0x1000, 0x1000))
	two.Dyn.Relas = []api.Rela{{Off: 0xffc, Type: 8}}
	if _, e := reloc.Patches([]api.Object{two}); e != api.ErrRel {
		t.Errorf("P19.1: over two loads: %d", e)
	}
}

func TestWhichErrorFirst(t *testing.T) {
	o := example()
	o.Dyn.Syms = append(o.Dyn.Syms, api.Sym{Name: "gone", Bind: 1}, api.Sym{Name: "weak", Bind: 2})
	for _, x := range []struct {
		name string
		l    []api.Rela
		e    api.Errno
	}{
		{"nobody's", []api.Rela{{Off: 8, Type: 1, Sym: 2}}, api.ErrSym}, {"nobody's, glob", []api.Rela{{Off: 8, Type: 6, Sym: 2}}, api.ErrSym}, {"nobody's, jump", []api.Rela{{Off: 8, Type: 7, Sym: 2}}, api.ErrSym}, {"nobody's, near, far away", []api.Rela{{Off: 8, Type: 2, Sym: 2, Add: 1 << 62}}, api.ErrSym}, {"nobody's, relative", []api.Rela{{Off: 8, Type: 8, Sym: 2}}, api.OK}, {"nobody's, at no place", []api.Rela{{Off: 0x999, Type: 1, Sym: 2}}, api.ErrRel}, {"nobody's, of no type", []api.Rela{{Off: 8, Type: 3, Sym: 2}}, api.ErrRel}, {"weak", []api.Rela{{Off: 8, Type: 1, Sym: 3, Add: 5}}, api.OK},
		{"the first counts", []api.Rela{{Off: 8, Type: 8}, {Off: 8, Type: 1, Sym: 2}, {Off: 8, Type: 99}}, api.ErrSym}, {"the first counts, the other way", []api.Rela{{Off: 8, Type: 8}, {Off: 8, Type: 99}, {Off: 8, Type: 1, Sym: 2}}, api.ErrRel},
	} {
		p := o
		p.Dyn.Relas = x.l
		if got, e := reloc.Patches([]api.Object{p}); e != x.e || e != api.OK && len(got) != 0 {
			t.Errorf("P19.1: %s: %v, %d", x.name, got, e)
		}
	}
	a, b := o, o
	a.Dyn.Relas, b.Dyn.Relas = []api.Rela{{Off: 8, Type: 1, Sym: 2}}, []api.Rela{{Off: 8, Type: 99}}
	if _, e := reloc.Patches([]api.Object{a, b}); e != api.ErrSym {
		t.Errorf("P19.1: the first object's error: %d", e)
	}
	if _, e := reloc.Patches([]api.Object{b, a}); e != api.ErrRel {
		t.Errorf("P19.1: the first object's error: %d", e)
	}
}

func TestWhatMayNotBe(t *testing.T) {
	good := example(api.Rela{Off: 8, Type: 8})
	many := func(n int) []api.Object { return slices.Repeat([]api.Object{good}, n) }
	with := func(turn func(o *api.Object)) []api.Object {
		o := good
		turn(&o)
		return []api.Object{good, o}
	}
	for _, x := range []struct {
		name string
		l    []api.Object
		n    int
		e    api.Errno
	}{
		{"none", nil, 0, api.OK}, {"nine", many(9), 9, api.OK}, {"ten", many(10), 0, api.ErrArg}, {"64 symbols", with(func(o *api.Object) { o.Dyn.Syms = make([]api.Sym, 64) }), 2, api.OK}, {"65 symbols", with(func(o *api.Object) { o.Dyn.Syms = make([]api.Sym, 65) }), 0, api.ErrArg}, {"64 relocations", with(func(o *api.Object) { o.Dyn.Relas = slices.Repeat(o.Dyn.Relas, 64) }), 65, api.OK}, {"65 relocations", with(func(o *api.Object) { o.Dyn.Relas = slices.Repeat(o.Dyn.Relas, 65) }), 0, api.ErrArg},
		{"one that is not right", with(func(o *api.Object) { o.Ino = -1 }), 0, api.ErrArg}, {"one without loads", with(func(o *api.Object) { o.Head.Segs = nil }), 0, api.ErrArg}, {"ErrArg ahead of ErrRel", append([]api.Object{example(api.Rela{Type: 99})}, with(func(o *api.Object) { o.Ino = -1 })...), 0, api.ErrArg}, {"an exec behind", with(func(o *api.Object) { o.Head.Type = 2 }), 2, api.OK},
	} {
		if got, e := reloc.Patches(x.l); e != x.e || len(got) != x.n {
			t.Errorf("P19.1: %s: %d patches, %d", x.name, len(got), e)
		}
	}
}

func TestObjects(t *testing.T) {
	a := example(api.Rela{Off: 0, Type: 1, Sym: 2}, api.Rela{Off: 8, Type: 6, Sym: 1})
	a.Dyn.Syms = append(a.Dyn.Syms, api.Sym{Name: "g", Bind: 1})
	b := example(api.Rela{Off: 16, Type: 7, Sym: 1}, api.Rela{Off: 24, Type: 1, Sym: 2}, api.Rela{Off: 32, Type: 8, Add: 1})
	b.Base = 0x9000
	b.Dyn.Syms = append(slices.Clone(b.Dyn.Syms), api.Sym{Name: "g", Value: 7, Bind: 2, Def: true})
	l := []api.Object{a, b}
	want := []api.Patch{{Addr: 0x1000, Size: 8, Value: 0x9007}, {Addr: 0x1008, Size: 8, Value: 0x1020}, {Addr: 0x9010, Size: 8, Value: 0x1020}, {Addr: 0x9018, Size: 8, Value: 0x9007}, {Addr: 0x9020, Size: 8, Value: 0x9001}}
	if got, e := reloc.Patches(l); !slices.Equal(got, want) || e != api.OK {
		t.Errorf("P19.1: %+v, %d", got, e)
	}
	if !reflect.DeepEqual(l, []api.Object{a, b}) {
		t.Error("P19.3: what was handed in is turned")
	}
	if _, e := reloc.Patches(l[:1]); e != api.ErrSym {
		t.Errorf("P19.1: without the other object: %d", e)
	}
	only := example(api.Rela{Off: 8, Type: 8, Add: 3}, api.Rela{Off: 16, Type: 8, Add: 4})
	alone, _ := reloc.Patches([]api.Object{only})
	both, _ := reloc.Patches([]api.Object{b, only})
	if !slices.Equal(both[3:], alone) || len(alone) != 2 {
		t.Errorf("P19.3: %v, alone %v", both, alone)
	}
	high := example(api.Rela{Off: 8, Type: 8})
	high.Base = top
	if got, e := reloc.Patches([]api.Object{high}); e != api.OK || got[0] != (api.Patch{Addr: 7, Size: 8, Value: top}) {
		t.Errorf("P19.1: modulo 2^64: %v, %d", got, e)
	}
}

func TestWrites(t *testing.T) {
	l := []api.Patch{{Addr: 1, Size: 1, Value: 0x1ff}, {Addr: top, Size: 2, Value: 0x12345}, {Addr: 3, Size: 4, Value: 0x1_89abcdef}, {Addr: 4, Size: 8, Value: 0x0123456789abcdef}}
	want := []api.Write{{Addr: 1, Bytes: []byte{0xff}}, {Addr: top, Bytes: []byte{0x45, 0x23}}, {Addr: 3, Bytes: []byte{0xef, 0xcd, 0xab, 0x89}}, {Addr: 4, Bytes: []byte{0xef, 0xcd, 0xab, 0x89, 0x67, 0x45, 0x23, 0x01}}}
	if got, e := reloc.Writes(l); !reflect.DeepEqual(got, want) || e != api.OK {
		t.Errorf("P19.2: %v, %d", got, e)
	}
	for _, size := range []int{0, 3, 5, 6, 7, 9, 16, -1, -8, 1 << 40, -1 << 63} {
		if got, e := reloc.Writes(append(l, api.Patch{Size: size})); len(got) != 0 || e != api.ErrArg {
			t.Errorf("P19.2: size %d: %d", size, e)
		}
	}
	if got, e := reloc.Writes(nil); len(got) != 0 || e != api.OK {
		t.Errorf("P19.2: none: %d", e)
	}
}
