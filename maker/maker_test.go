package maker_test

import (
	"bytes"
	"encoding/binary"
	"math/rand"
	"reflect"
	"slices"
	"strings"
	"testing"

	"hostel/api"
	"hostel/dynamic"
	"hostel/elf"
	"hostel/maker"
)

func made(t *testing.T, x api.Spec) []byte {
	t.Helper()
	b, e := maker.Make(x)
	if e != api.OK {
		t.Fatalf("P14.1: Make of %+v: %d", x, e)
	}
	return b
}

func at(b []byte, off, size int) uint64 {
	return binary.LittleEndian.Uint64(append(slices.Clone(b[off:off+size]), make([]byte, 8)...))
}

func TestExamples(t *testing.T) {
	for _, x := range []struct {
		s    api.Spec
		size int
		segs int
		e    api.Errno
	}{
		{api.Spec{Type: 3}, 176, 2, api.OK}, {api.Spec{Type: 2}, 0, 0, api.ErrArg}, {api.Spec{Type: 4}, 0, 0, api.ErrArg}, {api.Spec{Type: 3, Dyn: api.Dynamic{Syms: []api.Sym{{}}}}, 0, 0, api.ErrArg},
		{api.Spec{Type: 2, Entry: 0x410000, Text: []byte{0xc3}}, 4097, 3, api.OK}, {api.Spec{Type: 3, Dynamic: true}, 281, 3, api.OK},
		{api.Spec{Type: 3, Text: make([]byte, 65537)}, 0, 0, api.ErrBig}, {api.Spec{Type: 3, Data: make([]byte, 61440)}, 65536, 3, api.OK}, {api.Spec{Type: 3, Data: make([]byte, 61441)}, 0, 0, api.ErrBig},
	} {
		b, e := maker.Make(x.s)
		if len(b) != x.size || e != x.e || e == api.OK && int(at(b, 56, 2)) != x.segs {
			t.Errorf("P14.1: type %d, %d and %d bytes: %d bytes, %d", x.s.Type, len(x.s.Text), len(x.s.Data), len(b), e)
		}
	}
	if b := made(t, api.Spec{Type: 2, Entry: 0x410000, Text: []byte{0xc3}}); b[4096] != 0xc3 {
		t.Error("P14.1: the text")
	}
}

func texts(n int) []string { return make([]string, n) }

func TestRefused(t *testing.T) {
	fine := api.Spec{Type: 3, Dynamic: true, Text: make([]byte, 10), Data: make([]byte, 3), Dyn: api.Dynamic{Syms: make([]api.Sym, 2), Relas: make([]api.Rela, 3)}}
	for _, x := range []struct {
		name string
		turn func(x *api.Spec)
		e    api.Errno
	}{
		{"as it is", func(x *api.Spec) {}, api.OK},
		{"type 0", func(x *api.Spec) { x.Type = 0 }, api.ErrArg}, {"type 1", func(x *api.Spec) { x.Type = 1 }, api.ErrArg}, {"type 4", func(x *api.Spec) { x.Type = 4 }, api.ErrArg}, {"type 4 with an entry", func(x *api.Spec) { x.Type, x.Entry = 4, 0x10000 }, api.ErrArg},
		{"the text's first", func(x *api.Spec) { x.Entry = 0x10000 }, api.OK}, {"the text's last", func(x *api.Spec) { x.Entry = 0x10009 }, api.OK}, {"behind the text", func(x *api.Spec) { x.Entry = 0x1000a }, api.ErrArg}, {"ahead of the text", func(x *api.Spec) { x.Entry = 0xffff }, api.ErrArg}, {"entry 1", func(x *api.Spec) { x.Entry = 1 }, api.ErrArg}, {"an entry far away", func(x *api.Spec) { x.Entry = 1<<64 - 1 }, api.ErrArg},
		{"an exec's first", func(x *api.Spec) { x.Type, x.Entry = 2, 0x410000 }, api.OK}, {"an exec's last", func(x *api.Spec) { x.Type, x.Entry = 2, 0x410009 }, api.OK}, {"behind an exec's text", func(x *api.Spec) { x.Type, x.Entry = 2, 0x41000a }, api.ErrArg}, {"an exec with a dyn's entry", func(x *api.Spec) { x.Type, x.Entry = 2, 0x10000 }, api.ErrArg}, {"an exec without entry", func(x *api.Spec) { x.Type = 2 }, api.ErrArg}, {"an entry without text", func(x *api.Spec) { x.Text, x.Entry = nil, 0x10000 }, api.ErrArg},
		{"an interpreter", func(x *api.Spec) { x.Interp = "/lib/i" }, api.OK}, {"a long interpreter", func(x *api.Spec) { x.Interp = strings.Repeat("/", 200) }, api.OK}, {"an interpreter too long", func(x *api.Spec) { x.Interp = strings.Repeat("/", 201) }, api.ErrArg}, {"an interpreter with a nought", func(x *api.Spec) { x.Interp = "a\x00" }, api.ErrArg},
		{"apart -1", func(x *api.Spec) { x.Apart = -1 }, api.ErrArg}, {"all apart", func(x *api.Spec) { x.Apart = 3 }, api.OK}, {"more apart than there are", func(x *api.Spec) { x.Apart = 4 }, api.ErrArg},
		{"not dynamic", func(x *api.Spec) { x.Dynamic = false }, api.ErrArg}, {"not dynamic, nothing", func(x *api.Spec) {
			x.Dynamic, x.Dyn = false, api.Dynamic{Needed: []string{}, Syms: []api.Sym{}, Relas: []api.Rela{}}
		}, api.OK}, {"not dynamic, a name", func(x *api.Spec) { x.Dynamic, x.Dyn = false, api.Dynamic{Soname: "a"} }, api.ErrArg}, {"not dynamic, a run", func(x *api.Spec) { x.Dynamic, x.Dyn = false, api.Dynamic{Run: "a"} }, api.ErrArg}, {"not dynamic, needed", func(x *api.Spec) { x.Dynamic, x.Dyn = false, api.Dynamic{Needed: texts(1)} }, api.ErrArg}, {"not dynamic, relocations", func(x *api.Spec) { x.Dynamic, x.Dyn = false, api.Dynamic{Relas: make([]api.Rela, 1)} }, api.ErrArg}, {"not dynamic, apart", func(x *api.Spec) { x.Dynamic, x.Dyn, x.Apart = false, api.Dynamic{}, 1 }, api.ErrArg},
		{"needed with a nought", func(x *api.Spec) { x.Dyn.Needed = []string{"a", "b\x00"} }, api.ErrArg}, {"a name with a nought", func(x *api.Spec) { x.Dyn.Soname = "\x00" }, api.ErrArg}, {"a run with a nought", func(x *api.Spec) { x.Dyn.Run = "a\x00b" }, api.ErrArg}, {"a symbol with a nought", func(x *api.Spec) { x.Dyn.Syms[1].Name = "\x00" }, api.ErrArg}, {"bind 2", func(x *api.Spec) { x.Dyn.Syms[0].Bind = 2 }, api.OK}, {"bind 3", func(x *api.Spec) { x.Dyn.Syms[1].Bind = 3 }, api.ErrArg},
		{"a relocation's symbol", func(x *api.Spec) { x.Dyn.Relas[2].Sym = 2 }, api.OK}, {"a relocation's symbol too high", func(x *api.Spec) { x.Dyn.Relas[2].Sym = 3 }, api.ErrArg}, {"a relocation's symbol -1", func(x *api.Spec) { x.Dyn.Relas[0].Sym = -1 }, api.ErrArg},
		{"8 needed", func(x *api.Spec) { x.Dyn.Needed = texts(8) }, api.OK}, {"9 needed", func(x *api.Spec) { x.Dyn.Needed = texts(9) }, api.ErrBig}, {"64 symbols", func(x *api.Spec) { x.Dyn.Syms = make([]api.Sym, 64) }, api.OK}, {"65 symbols", func(x *api.Spec) { x.Dyn.Syms = make([]api.Sym, 65) }, api.ErrBig}, {"64 relocations", func(x *api.Spec) { x.Dyn.Relas = make([]api.Rela, 64) }, api.OK}, {"65 relocations", func(x *api.Spec) { x.Dyn.Relas = make([]api.Rela, 65) }, api.ErrBig},
		{"9 needed, one with a nought", func(x *api.Spec) { x.Dyn.Needed = append(texts(9), "\x00") }, api.ErrArg}, {"65 relocations, one too high", func(x *api.Spec) { x.Dyn.Relas = append(make([]api.Rela, 65), api.Rela{Sym: 3}) }, api.ErrArg},
		{"more 2^20", func(x *api.Spec) { x.More = 1 << 20 }, api.OK}, {"more than 2^20", func(x *api.Spec) { x.More = 1<<20 + 1 }, api.ErrBig}, {"all more", func(x *api.Spec) { x.More = 1<<64 - 1 }, api.ErrBig},
		{"a front of 65536", func(x *api.Spec) {
			x.Text, x.Data, x.Dyn = nil, nil, api.Dynamic{Soname: strings.Repeat("a", 65536-64-56*3-16*4-2)}
		}, api.OK}, {"a front of 65537", func(x *api.Spec) {
			x.Text, x.Data, x.Dyn = nil, nil, api.Dynamic{Soname: strings.Repeat("a", 65537-64-56*3-16*4-2)}
		}, api.ErrBig},
		{"a file of 65536", func(x *api.Spec) { x.Text, x.Data = make([]byte, 4097), make([]byte, 65536-3*4096) }, api.OK}, {"a file of 65537", func(x *api.Spec) { x.Text, x.Data = make([]byte, 4097), make([]byte, 65537-3*4096) }, api.ErrBig}, {"text of 61440", func(x *api.Spec) { x.Text, x.Data = make([]byte, 61440), nil }, api.OK}, {"text of 61441", func(x *api.Spec) { x.Text, x.Data = make([]byte, 61441), nil }, api.ErrBig}, {"text of 65536", func(x *api.Spec) { x.Text = make([]byte, 65536) }, api.ErrBig}, {"data of 2^20", func(x *api.Spec) { x.Data = make([]byte, 1<<20) }, api.ErrBig}, {"data of 2^20 and type 0", func(x *api.Spec) { x.Type, x.Data = 0, make([]byte, 1<<20) }, api.ErrArg}, {"noughts behind a full file", func(x *api.Spec) { x.Text, x.Data, x.More = make([]byte, 61440), nil, 1 }, api.OK},
	} {
		s := fine
		s.Dyn.Syms, s.Dyn.Relas = slices.Clone(fine.Dyn.Syms), slices.Clone(fine.Dyn.Relas)
		x.turn(&s)
		b, e := maker.Make(s)
		if e != x.e || e != api.OK && len(b) > 0 {
			t.Errorf("P14.1: %s: %d bytes, %d, want %d", x.name, len(b), e, x.e)
		}
	}
}

// rich is a description of everything, with a front that is worked out by hand below.
func rich() api.Spec {
	return api.Spec{
		Type: 2, Entry: 0x410001, Interp: "/lib/i", Text: []byte("text"), Data: []byte("data!"), More: 9000, Dynamic: true, Apart: 1,
		Dyn: api.Dynamic{
			Needed: []string{"b", "", "c"}, Soname: "so", Run: "/r",
			Syms:  []api.Sym{{Name: "a", Value: 1, Size: 2, Bind: 1, Def: true}, {Name: "b", Value: 1<<64 - 1, Bind: 2}, {Name: "c"}},
			Relas: []api.Rela{{Off: 7, Type: 8, Sym: 3, Add: -1}, {Off: 1 << 40, Type: 1 << 31, Add: 1<<63 - 1}, {Off: 9, Type: 7, Sym: 1}},
		},
	}
}

func le(size int, l ...uint64) []byte {
	var b []byte
	for _, x := range l {
		b = append(b, binary.LittleEndian.AppendUint64(nil, x)[:size]...)
	}
	return b
}

func TestFront(t *testing.T) {
	x := rich()
	b := made(t, x)
	const interp, section = 400, 408 // 64 and six times 56; then 7 bytes, to a multiple of 8
	const hash = section + 16*17     // of 5 entries, 3, 3, 3, 2 and the last one
	const syms = hash + 32           // 2 and 2 and 4 numbers of 4 bytes
	const relas = syms + 4*24
	const apart = relas + 2*24
	const strs = apart + 24
	const end = strs + 17
	const base = maker.ExecBase
	table := []byte("\x00b\x00c\x00so\x00/r\x00a\x00b\x00c\x00")
	want := slices.Concat(
		[]byte("\x7fELF\x02\x01\x01"), make([]byte, 9), le(2, 2, 62), le(4, 1), le(8, 0x410001, 64, 0), le(4, 0), le(2, 64, 56, 6, 64, 0, 0),
		le(4, 6, 4), le(8, 64, base+64, base+64, 336, 336, 8),
		le(4, 3, 4), le(8, interp, base+interp, base+interp, 7, 7, 1),
		le(4, 1, 4), le(8, 0, base, base, end, end, 4096),
		le(4, 1, 5), le(8, 4096, 0x410000, 0x410000, 4, 4, 4096),
		le(4, 1, 6), le(8, 8192, 0x420000, 0x420000, 5, 9005, 4096),
		le(4, 2, 4), le(8, section, base+section, base+section, 16*17, 16*17, 8),
		[]byte("/lib/i\x00\x00"),
		le(8, 1, 1, 1, 0, 1, 3, 14, 5, 29, 8, 4, base+hash, 6, base+syms, 11, 24, 7, base+relas, 8, 48, 9, 24, 23, base+apart, 2, 24, 20, 7, 5, base+strs, 10, 17, 0, 0),
		le(4, 2, 4, 2, 1, 0, 3, 0, 0), // b is even, a and c are odd
		make([]byte, 24), le(4, 11), []byte{0x10, 0, 1, 0}, le(8, 1, 2), le(4, 13), []byte{0x20, 0, 0, 0}, le(8, 1<<64-1, 0), le(4, 15), []byte{0, 0, 0, 0}, le(8, 0, 0),
		le(8, 7), le(4, 8, 3), le(8, 1<<64-1), le(8, 1<<40), le(4, 1<<31, 0), le(8, 1<<63-1),
		le(8, 9), le(4, 7, 1), le(8, 0),
		table,
	)
	if len(want) != end || len(table) != 17 {
		t.Fatalf("the front by hand has %d bytes", len(want))
	}
	if got := b[:end]; !bytes.Equal(got, want) {
		for i := range got {
			if got[i] != want[i] {
				t.Fatalf("P14.2, P14.3: the byte %d: %#x, want %#x", i, got[i], want[i])
			}
		}
	}
	rest := slices.Concat(make([]byte, 4096-end), []byte("text"), make([]byte, 4092), []byte("data!"))
	if !bytes.Equal(b[end:], rest) {
		t.Error("P14.1: what stands behind the front")
	}
}

func TestWhereThingsStand(t *testing.T) {
	for _, x := range []struct {
		name string
		s    api.Spec
		size int
		want []api.Seg
	}{
		{"data alone", api.Spec{Type: 3, Data: []byte("abc")}, 4099, []api.Seg{{Kind: 6, Flags: 4, Off: 64, Addr: 64, Filesz: 168, Memsz: 168}, {Kind: 1, Flags: 4, Filesz: 232, Memsz: 232}, {Kind: 1, Flags: 6, Off: 4096, Addr: 0x20000, Filesz: 3, Memsz: 3}}},
		{"noughts alone", api.Spec{Type: 3, More: 7}, 4096, []api.Seg{{Kind: 6, Flags: 4, Off: 64, Addr: 64, Filesz: 168, Memsz: 168}, {Kind: 1, Flags: 4, Filesz: 232, Memsz: 232}, {Kind: 1, Flags: 6, Off: 4096, Addr: 0x20000, Memsz: 7}}},
		{"text and noughts", api.Spec{Type: 3, Text: make([]byte, 5000), More: 7}, 12288, []api.Seg{{Kind: 6, Flags: 4, Off: 64, Addr: 64, Filesz: 224, Memsz: 224}, {Kind: 1, Flags: 4, Filesz: 288, Memsz: 288}, {Kind: 1, Flags: 5, Off: 4096, Addr: 0x10000, Filesz: 5000, Memsz: 5000}, {Kind: 1, Flags: 6, Off: 12288, Addr: 0x20000, Memsz: 7}}},
		{"text alone", api.Spec{Type: 3, Text: make([]byte, 4096)}, 8192, []api.Seg{{Kind: 6, Flags: 4, Off: 64, Addr: 64, Filesz: 168, Memsz: 168}, {Kind: 1, Flags: 4, Filesz: 232, Memsz: 232}, {Kind: 1, Flags: 5, Off: 4096, Addr: 0x10000, Filesz: 4096, Memsz: 4096}}},
		{"a byte of each", api.Spec{Type: 3, Text: []byte{1}, Data: []byte{2}}, 8193, []api.Seg{{Kind: 6, Flags: 4, Off: 64, Addr: 64, Filesz: 224, Memsz: 224}, {Kind: 1, Flags: 4, Filesz: 288, Memsz: 288}, {Kind: 1, Flags: 5, Off: 4096, Addr: 0x10000, Filesz: 1, Memsz: 1}, {Kind: 1, Flags: 6, Off: 8192, Addr: 0x20000, Filesz: 1, Memsz: 1}}},
		{"a nought", api.Spec{Type: 3, More: 1}, 4096, []api.Seg{{Kind: 6, Flags: 4, Off: 64, Addr: 64, Filesz: 168, Memsz: 168}, {Kind: 1, Flags: 4, Filesz: 232, Memsz: 232}, {Kind: 1, Flags: 6, Off: 4096, Addr: 0x20000, Memsz: 1}}},
		{"a byte of data", api.Spec{Type: 3, Data: []byte{2}}, 4097, []api.Seg{{Kind: 6, Flags: 4, Off: 64, Addr: 64, Filesz: 168, Memsz: 168}, {Kind: 1, Flags: 4, Filesz: 232, Memsz: 232}, {Kind: 1, Flags: 6, Off: 4096, Addr: 0x20000, Filesz: 1, Memsz: 1}}},
		{"an interpreter", api.Spec{Type: 3, Interp: "i"}, 234, []api.Seg{{Kind: 6, Flags: 4, Off: 64, Addr: 64, Filesz: 168, Memsz: 168}, {Kind: 3, Flags: 4, Off: 232, Addr: 232, Filesz: 2, Memsz: 2}, {Kind: 1, Flags: 4, Filesz: 234, Memsz: 234}}},
	} {
		b := made(t, x.s)
		h, e := elf.Parse(b)
		if len(b) != x.size || e != api.OK || !reflect.DeepEqual(h.Segs, x.want) {
			t.Errorf("P14.2: %s: %d bytes, %d, %+v", x.name, len(b), e, h.Segs)
		}
	}
}

// TestHashTables: how many buckets and links there are (P14.3).
func TestHashTables(t *testing.T) {
	for n := 1; n <= 64; n++ {
		b := made(t, api.Spec{Type: 3, Dynamic: true, Dyn: api.Dynamic{Syms: make([]api.Sym, n)}})
		table := 64 + 3*56 + 16*6 // behind the section of 5 entries and the last one
		if at(b, table, 4) != uint64(n/2+1) || at(b, table+4, 4) != uint64(n+1) || at(b, table+8, 4) != 1 {
			t.Errorf("P14.3: of %d symbols: %d buckets, %d links", n, at(b, table, 4), at(b, table+4, 4))
		}
	}
}

// TestReadAgain: what is made is read again by elf and dynamic (What follows).
func TestReadAgain(t *testing.T) {
	r := rand.New(rand.NewSource(14))
	name := func() string { return strings.Repeat(string(rune('a'+r.Intn(5))), r.Intn(4)) }
	for range 1500 {
		x := api.Spec{Type: uint16(2 + r.Intn(2)), Text: make([]byte, r.Intn(2)*r.Intn(9000)), Data: make([]byte, r.Intn(2)*r.Intn(9000)), More: uint64(r.Intn(2) * r.Intn(9000)), Dynamic: r.Intn(4) > 0}
		r.Read(x.Text)
		r.Read(x.Data)
		base := uint64(3-x.Type) * maker.ExecBase
		if len(x.Text) > 0 {
			x.Entry = base + maker.TextAt + uint64(r.Intn(len(x.Text)))
		} else {
			x.Type, base = 3, 0
		}
		if r.Intn(2) == 0 {
			x.Interp = "/lib/" + name()
		}
		if x.Dynamic {
			for range r.Intn(4) {
				x.Dyn.Needed = append(x.Dyn.Needed, name())
			}
			x.Dyn.Soname, x.Dyn.Run = name(), name()
			for range r.Intn(8) {
				x.Dyn.Syms = append(x.Dyn.Syms, api.Sym{Name: name(), Value: r.Uint64(), Size: r.Uint64(), Bind: uint8(r.Intn(3)), Def: r.Intn(2) == 0})
			}
			for range r.Intn(6) {
				x.Dyn.Relas = append(x.Dyn.Relas, api.Rela{Off: r.Uint64(), Type: r.Uint32(), Sym: r.Intn(len(x.Dyn.Syms) + 1), Add: int64(r.Uint64())})
			}
			x.Apart = r.Intn(len(x.Dyn.Relas) + 1)
		}
		b := made(t, x)
		h, e := elf.Parse(b)
		if e != api.OK || h.Type != x.Type || h.Entry != x.Entry {
			t.Fatalf("P14.2: of %+v: %+v, %d", x, h, e)
		}
		if got, ok, e := elf.Interp(b, h); got != x.Interp || ok != (x.Interp != "") || e != api.OK {
			t.Fatalf("P14.2: the interpreter %q, want %q", got, x.Interp)
		}
		for _, s := range elf.Loads(h) {
			part := b[s.Off : s.Off+s.Filesz]
			if s.Addr == base+maker.TextAt && !bytes.Equal(part, x.Text) || s.Addr == base+maker.DataAt && (!bytes.Equal(part, x.Data) || s.Memsz != s.Filesz+x.More) {
				t.Fatalf("P14.2: the load at %#x", s.Addr)
			}
		}
		if elf.Phdr(h) != base+64 {
			t.Fatalf("P14.2: the program headers at %#x", elf.Phdr(h))
		}
		d, e := dynamic.Parse(b, h)
		if e != api.OK || !reflect.DeepEqual(d, x.Dyn) {
			t.Fatalf("P14.3: %+v, %d, want %+v", d, e, x.Dyn)
		}
		if !dynamic.Right(b, h) {
			t.Fatalf("P14.3: the hash table of %v", x.Dyn.Syms)
		}
		for _, s := range x.Dyn.Syms {
			if at, ok := dynamic.Look(b, h, s.Name); !ok || x.Dyn.Syms[at].Name != s.Name {
				t.Fatalf("P14.3: %q is not found", s.Name)
			}
		}
	}
}

func TestNothingIsTurned(t *testing.T) {
	x, same := rich(), rich()
	room := append(make([]byte, 0, 9000), "text"...)
	x.Text = room
	b := made(t, x)
	clear(b)
	x.Text = same.Text
	if !reflect.DeepEqual(x, same) || !bytes.Equal(room[:9000][4:], make([]byte, 8996)) {
		t.Error("R3: what was handed in is another one")
	}
}
