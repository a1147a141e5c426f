package layout_test

import (
	"bytes"
	"math/rand"
	"reflect"
	"slices"
	"testing"

	"hostel/api"
	"hostel/layout"
)

const (
	top       = 1<<64 - 1
	stackFrom = api.StackTop - 4*4096
)

func load(addr, off, filesz, memsz uint64) api.Seg {
	return api.Seg{Kind: 1, Flags: 6, Off: off, Addr: addr, Filesz: filesz, Memsz: memsz}
}

func object(kind uint16, segs ...api.Seg) api.Object {
	return api.Object{Ino: 3, Head: api.Head{Type: kind, Segs: segs}}
}

// example is the object of the chapter's examples.
func example(kind uint16) api.Object { return object(kind, load(0x1234, 0x234, 0x100, 0x2000)) }

// pages is an object whose span has these pages.
func pages(kind uint16, from, to uint64) api.Object {
	o := object(kind, load(from*4096, 0, 1, 1))
	if to > from+1 {
		o.Head.Segs = append(o.Head.Segs, load((to-1)*4096, 0, 1, 4096))
	}
	return o
}

func with(o api.Object, turn func(o *api.Object, s *api.Seg)) api.Object {
	o.Head.Segs = slices.Clone(o.Head.Segs)
	turn(&o, &o.Head.Segs[0])
	return o
}

var rights = []struct {
	name  string
	right bool
	turn  func(o *api.Object, s *api.Seg)
}{
	{"as it is", true, func(o *api.Object, s *api.Seg) {}},
	{"Ino 0", true, func(o *api.Object, s *api.Seg) { o.Ino = 0 }}, {"Ino -1", false, func(o *api.Object, s *api.Seg) { o.Ino = -1 }},
	{"type 2", true, func(o *api.Object, s *api.Seg) { o.Head.Type = 2 }}, {"type 0", false, func(o *api.Object, s *api.Seg) { o.Head.Type = 0 }}, {"type 4", false, func(o *api.Object, s *api.Seg) { o.Head.Type = 4 }},
	{"what is not looked at", true, func(o *api.Object, s *api.Seg) {
		o.Head.Entry, o.Head.Phoff, o.Dyn.Needed = top, top, make([]string, 99)
	}},
	{"8 segments", true, func(o *api.Object, s *api.Seg) { o.Head.Segs = append(o.Head.Segs, make([]api.Seg, 7)...) }}, {"9 segments", false, func(o *api.Object, s *api.Seg) { o.Head.Segs = append(o.Head.Segs, make([]api.Seg, 8)...) }},
	{"no segments", false, func(o *api.Object, s *api.Seg) { o.Head.Segs = nil }}, {"no load", false, func(o *api.Object, s *api.Seg) { s.Kind = 2 }},
	{"another segment that is odd", true, func(o *api.Object, s *api.Seg) {
		o.Head.Segs = append(o.Head.Segs, api.Seg{Kind: 3, Flags: 99, Off: top, Addr: top, Filesz: top})
	}},
	{"flags 7", true, func(o *api.Object, s *api.Seg) { s.Flags = 7 }}, {"flags 0", true, func(o *api.Object, s *api.Seg) { s.Flags = 0 }}, {"flags 8", false, func(o *api.Object, s *api.Seg) { s.Flags = 8 }},
	{"memsz 0", false, func(o *api.Object, s *api.Seg) { s.Filesz, s.Memsz = 0, 0 }}, {"filesz 0", true, func(o *api.Object, s *api.Seg) { s.Filesz = 0 }}, {"filesz as memsz", true, func(o *api.Object, s *api.Seg) { s.Filesz = 0x2000 }}, {"filesz above memsz", false, func(o *api.Object, s *api.Seg) { s.Filesz = 0x2001 }},
	{"up to the end of files", true, func(o *api.Object, s *api.Seg) { s.Off, s.Filesz = 0xf234, 65536-0xf234 }}, {"behind the end of files", false, func(o *api.Object, s *api.Seg) { s.Off, s.Filesz = 0xf234, 65536-0xf234+1 }}, {"a place behind the end of files", false, func(o *api.Object, s *api.Seg) { s.Off, s.Filesz = 0x10234, 0 }}, {"a place at the end of files", true, func(o *api.Object, s *api.Seg) { s.Addr, s.Off, s.Filesz = 0x1000, 0x10000, 0 }}, {"a place that wraps", false, func(o *api.Object, s *api.Seg) { s.Addr, s.Off, s.Filesz = 0x1fff, top, 1 }},
	{"another rest", false, func(o *api.Object, s *api.Seg) { s.Off++ }}, {"another page, the same rest", true, func(o *api.Object, s *api.Seg) { s.Off += 4096 }},
	{"up to 2^32", true, func(o *api.Object, s *api.Seg) { s.Memsz = 1<<32 - 0x1234 }}, {"behind 2^32", false, func(o *api.Object, s *api.Seg) { s.Memsz = 1<<32 - 0x1234 + 1 }}, {"behind 2^32, of an exec", true, func(o *api.Object, s *api.Seg) { o.Head.Type, s.Memsz = 2, 1<<32 }}, {"up to UserEnd, of an exec", true, func(o *api.Object, s *api.Seg) { o.Head.Type, s.Memsz = 2, 1<<47-0x1234 }}, {"behind UserEnd, of an exec", false, func(o *api.Object, s *api.Seg) { o.Head.Type, s.Memsz = 2, 1<<47-0x1234+1 }}, {"that wraps", false, func(o *api.Object, s *api.Seg) { o.Head.Type, s.Memsz = 2, top }}, {"an address that wraps", false, func(o *api.Object, s *api.Seg) { o.Head.Type, s.Addr = 2, top-0xfff+0x234 }},
	{"a second load", true, func(o *api.Object, s *api.Seg) { o.Head.Segs = append(o.Head.Segs, load(0x4000, 0, 1, 1)) }}, {"a second load on the same page", false, func(o *api.Object, s *api.Seg) { o.Head.Segs = append(o.Head.Segs, load(0x3fff, 0xfff, 1, 1)) }}, {"a second load ahead", false, func(o *api.Object, s *api.Seg) { o.Head.Segs = append(o.Head.Segs, load(0, 0, 1, 1)) }},
	{"a third load between", false, func(o *api.Object, s *api.Seg) {
		o.Head.Segs = append(o.Head.Segs, load(0x9000, 0, 1, 1), load(0x5000, 0, 1, 1))
	}},
}

func TestRight(t *testing.T) {
	good := example(3)
	for _, x := range rights {
		o := with(good, x.turn)
		if got := layout.Right(o); got != x.right {
			t.Errorf("P17.1: %s: %v", x.name, got)
		}
		if x.right {
			continue
		}
		if l, e := layout.Bases([]api.Object{o}); e != api.ErrArg || len(l) != 0 {
			t.Errorf("P17.2: %s: %d", x.name, e)
		}
		if l, e := layout.Bases([]api.Object{good, o}); e != api.ErrArg || len(l) != 0 {
			t.Errorf("P17.2: %s: %d", x.name, e)
		}
		if p, e := layout.Place(nil, o); e != api.ErrArg || !reflect.DeepEqual(p, api.Object{}) {
			t.Errorf("P17.3: %s: %d", x.name, e)
		}
		if p, e := layout.Place([]api.Object{good, o}, good); e != api.ErrArg || !reflect.DeepEqual(p, api.Object{}) {
			t.Errorf("P17.3: %s in the list: %d", x.name, e)
		}
		if p, w, e := layout.Pieces(o); e != api.ErrArg || len(p) != 0 || len(w) != 0 {
			t.Errorf("P17.4: %s: %d", x.name, e)
		}
	}
	if layout.Right(api.Object{}) {
		t.Error("P17.1: the zero object")
	}
}

func bases(l []api.Object) []uint64 {
	var out []uint64
	for _, o := range l {
		out = append(out, o.Base)
	}
	return out
}

func TestBases(t *testing.T) {
	const big = 1<<20 - 1 // pages, nearly all that a TypeDyn may have
	nine := slices.Repeat([]api.Object{example(3)}, 9)
	for _, x := range []struct {
		name string
		l    []api.Object
		want []uint64
		e    api.Errno
	}{
		{"an exec", []api.Object{example(2)}, []uint64{0}, api.OK}, {"two dyns", []api.Object{example(3), example(3)}, []uint64{0x555555553000, 0x7efffffff000}, api.OK},
		{"none", nil, nil, api.ErrArg}, {"eight", nine[:8], []uint64{0x555555553000, 0x7efffffff000, 0x7f0000003000, 0x7f0000007000, 0x7f000000b000, 0x7f000000f000, 0x7f0000013000, 0x7f0000017000}, api.OK}, {"nine", nine, nil, api.ErrArg}, {"an exec behind", []api.Object{example(3), example(2)}, nil, api.ErrArg}, {"two execs", []api.Object{example(2), example(2)}, nil, api.ErrArg},
		{"an exec and two", []api.Object{pages(2, 7, 9), pages(3, 0, 1), pages(3, 2, 5)}, []uint64{0, api.LibBase, api.LibBase + 2*4096 - 2*4096}, api.OK},
		{"big ones", []api.Object{pages(3, 1, big), pages(3, 1, big), pages(3, 0, 1)}, []uint64{api.MainBase - 4096, api.LibBase - 4096, api.LibBase + big*4096}, api.OK},
		{"an exec in the stack's area", []api.Object{pages(2, stackFrom/4096, stackFrom/4096+1)}, nil, api.ErrExec}, {"the stack's last page", []api.Object{pages(2, api.StackTop/4096-1, api.StackTop/4096)}, nil, api.ErrExec}, {"around the stack", []api.Object{pages(2, 1, 1<<35)}, nil, api.ErrExec}, {"right below the stack", []api.Object{pages(2, 1, stackFrom/4096)}, []uint64{0}, api.OK}, {"right above the stack", []api.Object{pages(2, api.StackTop/4096, 1<<35)}, []uint64{0}, api.OK},
		{"an exec where the library is to lie", []api.Object{pages(2, api.LibBase/4096, api.LibBase/4096+1), pages(3, 0, 1)}, nil, api.ErrExec}, {"up to the library", []api.Object{pages(2, 1, api.LibBase/4096), pages(3, 0, 1)}, []uint64{0, api.LibBase}, api.OK}, {"an exec in the free page between", []api.Object{pages(2, api.LibBase/4096+1, api.LibBase/4096+2), pages(3, 0, 1), pages(3, 0, 1)}, []uint64{0, api.LibBase, api.LibBase + 8192}, api.OK}, {"an exec where the second library is to lie", []api.Object{pages(2, api.LibBase/4096+2, api.LibBase/4096+3), pages(3, 0, 1), pages(3, 0, 1)}, nil, api.ErrExec}, {"a gap of the exec counts, too", []api.Object{pages(2, 1, api.LibBase/4096+9), pages(3, 0, 1)}, nil, api.ErrExec},
	} {
		old := slices.Clone(x.l)
		got, e := layout.Bases(x.l)
		if !slices.Equal(bases(got), x.want) || e != x.e {
			t.Errorf("P17.2: %s: %#x, %d", x.name, bases(got), e)
		}
		if !reflect.DeepEqual(old, x.l) {
			t.Errorf("R3: %s: what was handed in is turned", x.name)
		}
		for i := range got {
			got[i].Base = x.l[i].Base
		}
		if e == api.OK && !reflect.DeepEqual(got, x.l) {
			t.Errorf("P17.2: %s: something else is turned", x.name)
		}
	}
	moved := example(2)
	moved.Base = 0x5000
	if got, _ := layout.Bases([]api.Object{moved}); got[0].Base != 0 {
		t.Errorf("P17.2: an exec's Base: %#x", got[0].Base)
	}
}

func based(o api.Object, base uint64) api.Object {
	o.Base = base
	return o
}

func TestPlace(t *testing.T) {
	const ip = api.InterpBase
	o := pages(3, 3, 6)
	for _, x := range []struct {
		name string
		l    []api.Object
		e    api.Errno
	}{
		{"alone", nil, api.OK}, {"beside one", []api.Object{example(2)}, api.OK}, {"in its place", []api.Object{based(pages(3, 0, 1), ip)}, api.ErrExec}, {"in its last page", []api.Object{based(pages(3, 0, 1), ip+2*4096)}, api.ErrExec}, {"right behind", []api.Object{based(pages(3, 0, 1), ip+3*4096)}, api.OK}, {"right ahead", []api.Object{based(pages(3, 0, 2), ip-2*4096)}, api.OK}, {"over its beginning", []api.Object{based(pages(3, 0, 2), ip-4096)}, api.ErrExec}, {"around it", []api.Object{pages(2, 1, 1<<35)}, api.ErrExec}, {"a page of which it has a byte", []api.Object{based(pages(3, 0, 1), ip-1)}, api.ErrExec}, {"a page's last byte", []api.Object{based(pages(3, 0, 1), ip-4096)}, api.OK},
		{"the second of two", []api.Object{example(2), based(pages(3, 0, 1), ip)}, api.ErrExec}, {"two that lie on one another", []api.Object{example(2), example(2), example(3)}, api.OK}, {"eight", slices.Repeat([]api.Object{example(2)}, 8), api.OK}, {"nine", slices.Repeat([]api.Object{example(2)}, 9), api.ErrArg},
		{"beyond UserEnd", []api.Object{based(pages(3, 0, 1), 1<<47)}, api.ErrArg}, {"up to UserEnd", []api.Object{based(pages(3, 0, 1), 1<<47-4096)}, api.OK}, {"a byte beyond UserEnd", []api.Object{based(pages(3, 0, 1), 1<<47-4095)}, api.ErrArg}, {"that wraps", []api.Object{based(pages(3, 1, 2), top-4095)}, api.ErrArg}, {"that wraps to the end", []api.Object{based(pages(3, 0, 1), top-4095)}, api.ErrArg}, {"in the stack's area", []api.Object{based(pages(3, 0, 1), stackFrom)}, api.OK},
	} {
		got, e := layout.Place(x.l, o)
		want := api.Object{}
		if e == api.OK {
			want = based(o, ip-3*4096)
		}
		if e != x.e || !reflect.DeepEqual(got, want) {
			t.Errorf("P17.3: %s: %#x, %d", x.name, got.Base, e)
		}
	}
	if got, e := layout.Place(nil, example(2)); e != api.ErrArg || got.Base != 0 {
		t.Errorf("P17.3: an exec: %d", e)
	}
	if got, e := layout.Place(nil, based(example(3), top)); e != api.OK || got.Base != ip-4096 {
		t.Errorf("P17.3: its own Base does not count: %#x, %d", got.Base, e)
	}
}

func TestPieces(t *testing.T) {
	f := func(from, to, off uint64) api.Piece { return api.Piece{From: from, To: to, Prot: 6, Ino: 3, Off: off} }
	n := func(from, to uint64) api.Piece { return api.Piece{From: from, To: to, Prot: 6, Ino: -1} }
	type wr struct{ addr, n uint64 }
	for _, x := range []struct {
		name   string
		o      api.Object
		pieces []api.Piece
		writes []wr
	}{
		{"the example", example(2), []api.Piece{f(0x1000, 0x2000, 0), n(0x2000, 0x4000)}, []wr{{0x1334, 0xccc}}}, {"with a Base", based(example(3), 0x10000), []api.Piece{f(0x11000, 0x12000, 0), n(0x12000, 0x14000)}, []wr{{0x11334, 0xccc}}},
		{"filled", object(2, load(0x1234, 0x5234, 0x1000, 0x1000)), []api.Piece{f(0x1000, 0x3000, 0x5000)}, nil}, {"a little more", object(2, load(0x1234, 0x5234, 0x1000, 0x1001)), []api.Piece{f(0x1000, 0x3000, 0x5000)}, []wr{{0x2234, 0xdcc}}}, {"up to the page's end", object(2, load(0x1234, 0x5234, 0x1000, 0x1dcc)), []api.Piece{f(0x1000, 0x3000, 0x5000)}, []wr{{0x2234, 0xdcc}}}, {"a byte on the next page", object(2, load(0x1234, 0x5234, 0x1000, 0x1dcd)), []api.Piece{f(0x1000, 0x3000, 0x5000), n(0x3000, 0x4000)}, []wr{{0x2234, 0xdcc}}},
		{"filled up to a page", object(2, load(0x1234, 0x234, 0xdcc, 0x2000)), []api.Piece{f(0x1000, 0x2000, 0), n(0x2000, 0x4000)}, nil}, {"filled up to a page, and no more", object(2, load(0x1234, 0x234, 0xdcc, 0xdcc)), []api.Piece{f(0x1000, 0x2000, 0)}, nil},
		{"a byte", object(2, load(0x1fff, 0xfff, 1, 1)), []api.Piece{f(0x1000, 0x2000, 0)}, nil}, {"a byte, and one more", object(2, load(0x1000, 0x1000, 1, 2)), []api.Piece{f(0x1000, 0x2000, 0x1000)}, []wr{{0x1001, 4095}}},
		{"not filled", object(2, load(0x1234, 0x234, 0, 1)), []api.Piece{n(0x1000, 0x2000)}, nil}, {"not filled, from a page on", object(2, load(0x1000, 0x10000, 0, 0x1001)), []api.Piece{n(0x1000, 0x3000)}, nil},
		{"two loads", object(2, load(0, 0, 5, 6), api.Seg{Kind: 6}, load(0x1000, 0, 4095, 4096)), []api.Piece{f(0, 0x1000, 0), f(0x1000, 0x2000, 0)}, []wr{{5, 4091}, {0x1fff, 1}}},
		{"up to UserEnd", based(object(3, load(0, 0, 4096, 8192)), 1<<47-8192), []api.Piece{f(1<<47-8192, 1<<47-4096, 0), n(1<<47-4096, 1<<47)}, nil},
	} {
		pieces, writes, e := layout.Pieces(x.o)
		if !slices.Equal(pieces, x.pieces) || e != api.OK || len(writes) != len(x.writes) {
			t.Errorf("P17.4: %s: %+v, %d writes, %d", x.name, pieces, len(writes), e)
			continue
		}
		for i, w := range writes {
			if w.Addr != x.writes[i].addr || !bytes.Equal(w.Bytes, make([]byte, x.writes[i].n)) {
				t.Errorf("P17.4: %s: the write at %#x of %d", x.name, w.Addr, len(w.Bytes))
			}
		}
	}
	for _, base := range []uint64{1, 4095, 0x10800, 1<<47 - 4096*3, 1 << 47, top - 4095, top - 8191, top - 3*4096 + 1, 1 << 63} {
		if p, w, e := layout.Pieces(based(example(3), base)); e != api.ErrArg || len(p) != 0 || len(w) != 0 {
			t.Errorf("P17.4: Base %#x: %d", base, e)
		}
	}
	if _, _, e := layout.Pieces(based(example(3), 1<<47-4096*4)); e != api.OK {
		t.Errorf("P17.4: the highest Base: %d", e)
	}
}

// chance is an object of up to three loads, made by chance.
func chance(r *rand.Rand, kind uint16) api.Object {
	o := object(kind)
	next := uint64(r.Intn(4))
	for range 1 + r.Intn(3) {
		rest := uint64(r.Intn(2) * r.Intn(4096))
		memsz := uint64(1 + r.Intn(3*4096))
		filesz := min(uint64(r.Intn(2)*r.Intn(3*4096)), memsz)
		s := load(next*4096+rest, uint64(r.Intn(8))*4096+rest, filesz, memsz)
		s.Flags = uint8(r.Intn(8))
		o.Head.Segs = append(o.Head.Segs, s)
		next = (s.Addr+memsz+4095)/4096 + uint64(r.Intn(2))
	}
	return o
}

// TestWhatLies: pieces have no page in common, and each byte of a load lies in one, with the right byte (P17.5).
func TestWhatLies(t *testing.T) {
	r := rand.New(rand.NewSource(17))
	for range 80 {
		l := []api.Object{chance(r, uint16(2+r.Intn(2)))}
		for range r.Intn(7) {
			l = append(l, chance(r, 3))
		}
		placed, e := layout.Bases(l)
		if e != api.OK {
			t.Fatalf("P17.2: %d", e)
		}
		interp, e := layout.Place(placed, chance(r, 3))
		if e != api.OK {
			t.Fatalf("P17.3: %d", e)
		}
		of := map[uint64]int{} // whose each page is
		for p := uint64(stackFrom); p < api.StackTop; p += 4096 {
			of[p] = -1
		}
		for i, o := range append(placed, interp) {
			if !layout.Right(o) {
				t.Fatalf("P17.1: %+v", o)
			}
			pieces, writes, _ := layout.Pieces(o)
			what := map[uint64]byte{} // a byte of the file is told as its place's, and 1
			for _, p := range pieces {
				for a := p.From; a < p.To; a += 4096 {
					if _, twice := of[a]; twice {
						t.Fatalf("P17.5: the page %#x", a)
					}
					of[a] = i
				}
				for a := p.From; a < p.To; a++ {
					what[a] = 0
					if p.Ino == 3 {
						what[a] = byte((p.Off+a-p.From)%251 + 1)
					}
				}
			}
			for _, w := range writes {
				for k, b := range w.Bytes {
					what[w.Addr+uint64(k)] = b
				}
			}
			for _, s := range o.Head.Segs {
				for k := range s.Memsz {
					want := byte(0)
					if k < s.Filesz {
						want = byte((s.Off+k)%251 + 1)
					}
					if got, ok := what[o.Base+s.Addr+k]; !ok || got != want {
						t.Fatalf("P17.5: the byte %d of the load at %#x: %d, %v, want %d", k, s.Addr, got, ok, want)
					}
				}
			}
		}
	}
}
