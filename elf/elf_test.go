package elf_test

import (
	"encoding/binary"
	"math/rand"
	"reflect"
	"slices"
	"strings"
	"testing"

	"hostel/api"
	"hostel/elf"
)

const top = 1<<64 - 1

// row is a program header with its alignment.
type row struct {
	kind, flags                    uint32
	off, addr, filesz, memsz, algn uint64
}

func put(b []byte, at, size int, x uint64) {
	for i := range size {
		b[at+i] = byte(x >> (8 * i))
	}
}

// file is a file of size bytes with a header and program headers from 64 on.
func file(kind uint16, entry uint64, size int, rows ...row) []byte {
	b := make([]byte, max(size, 64+56*len(rows)))
	copy(b, "\x7fELF\x02\x01\x01")
	put(b, 16, 2, uint64(kind))
	put(b, 18, 2, 62)
	put(b, 20, 4, 1)
	put(b, 24, 8, entry)
	put(b, 32, 8, 64)
	put(b, 54, 2, 56)
	put(b, 56, 2, uint64(len(rows)))
	for i, r := range rows {
		at := 64 + 56*i
		put(b, at, 4, uint64(r.kind))
		put(b, at+4, 4, uint64(r.flags))
		put(b, at+8, 8, r.off)
		put(b, at+16, 8, r.addr)
		put(b, at+32, 8, r.filesz)
		put(b, at+40, 8, r.memsz)
		put(b, at+48, 8, r.algn)
	}
	return b[:size]
}

func (r row) seg() api.Seg {
	return api.Seg{Kind: r.kind, Flags: uint8(r.flags), Off: r.off, Addr: r.addr, Filesz: r.filesz, Memsz: r.memsz}
}

// code is the load of the chapter's example.
var code = row{1, 5, 0, 0x400000, 128, 128, 4096}

func example() []byte { return file(2, 0x400078, 128, code) }

func parses(t *testing.T, name string, b []byte, want api.Errno) {
	t.Helper()
	old := slices.Clone(b)
	h, e := elf.Parse(b)
	if e != want || e != api.OK && !reflect.DeepEqual(h, api.Head{}) {
		t.Errorf("P12.1: %s: %+v, %d, want %d", name, h, e, want)
	}
	if !slices.Equal(old, b) {
		t.Errorf("R3: %s: what was handed in is turned", name)
	}
}

func TestExample(t *testing.T) {
	x := example()
	h, e := elf.Parse(x)
	if want := (api.Head{Type: 2, Entry: 0x400078, Phoff: 64, Segs: []api.Seg{code.seg()}}); e != api.OK || !reflect.DeepEqual(h, want) {
		t.Errorf("P12.1: %+v, %d", h, e)
	}
	if low, high := elf.Span(h); low != 0x400000 || high != 0x401000 {
		t.Errorf("P12.2: Span: %#x, %#x", low, high)
	}
	if got := elf.Phdr(h); got != 0x400040 {
		t.Errorf("P12.2: Phdr: %#x", got)
	}
	if got := elf.Loads(h); !slices.Equal(got, []api.Seg{code.seg()}) {
		t.Errorf("P12.2: Loads: %v", got)
	}
	if p, ok, e := elf.Interp(x, h); p != "" || ok || e != api.OK {
		t.Errorf("P12.3: %q, %v, %d", p, ok, e)
	}
}

func TestHeader(t *testing.T) {
	x := example()
	turned := func(at, size int, v uint64) []byte {
		b := slices.Clone(x)
		put(b, at, size, v)
		return b
	}
	parses(t, "without its last byte", x[:127], api.ErrForm)
	parses(t, "63 bytes", x[:63], api.ErrExec)
	parses(t, "64 bytes", x[:64], api.ErrForm)
	parses(t, "119 bytes", x[:119], api.ErrForm)
	parses(t, "nothing", nil, api.ErrExec)
	parses(t, "a text", []byte("#!/bin/sh\n"), api.ErrExec)
	for i := range 7 {
		parses(t, "another magic", turned(i, 1, uint64(x[i])+1), api.ErrExec)
	}
	for i := 7; i < 16; i++ {
		parses(t, "what is not looked at", turned(i, 1, 0xff), api.OK)
	}
	for _, at := range []int{40, 48, 52, 53, 58, 60, 62, 63} {
		parses(t, "what is not looked at", turned(at, 1, 0xff), api.OK)
	}
	for kind, e := range map[uint64]api.Errno{0: api.ErrExec, 1: api.ErrExec, 2: api.OK, 3: api.OK, 4: api.ErrExec, 0x102: api.ErrExec, 0xffff: api.ErrExec} {
		parses(t, "type", turned(16, 2, kind), e)
	}
	for _, v := range []uint64{0, 3, 61, 63, 62 << 8, 62 | 1<<8} {
		parses(t, "machine", turned(18, 2, v), api.ErrExec)
	}
	for _, v := range []uint64{0, 2, 1 << 8, 1 | 1<<8, 1 | 1<<31} {
		parses(t, "version", turned(20, 4, v), api.ErrExec)
	}
	for _, v := range []uint64{0, 55, 57, 56 | 1<<8, 64} {
		parses(t, "a header's size", turned(54, 2, v), api.ErrExec)
	}
	for v, e := range map[uint64]api.Errno{0: api.ErrExec, 2: api.ErrForm, 8: api.ErrForm, 9: api.ErrExec, 1 | 1<<8: api.ErrExec} {
		parses(t, "how many", turned(56, 2, v), e)
	}
	for _, v := range []uint64{73, 128, 1 << 40, top, top - 55, top - 63} {
		parses(t, "place of the headers", turned(32, 8, v), api.ErrForm)
	}
	cut := file(2, 0x400000, 176, with(code, func(r *row) { r.filesz = 100 }), row{})
	parses(t, "the last header whole", cut, api.OK)
	parses(t, "the last header without its alignment", cut[:168], api.ErrForm)
	far := append(slices.Clone(x), x[64:120]...)
	put(far, 32, 8, 128)
	for i := 64; i < 120; i++ {
		far[i] = 0xff
	}
	if h, e := elf.Parse(far); e != api.OK || h.Phoff != 128 || h.Segs[0] != code.seg() {
		t.Errorf("P12.1: headers behind: %+v, %d", h, e)
	}
	exec := turned(56, 2, 0)
	exec[18] = 3
	parses(t, "ErrExec ahead of ErrForm", exec[:64], api.ErrExec)
}

func with(r row, turn func(r *row)) row {
	turn(&r)
	return r
}

func TestSegments(t *testing.T) {
	for _, x := range []struct {
		name string
		kind uint16
		turn func(r *row)
		e    api.Errno
	}{
		{"as it is", 2, func(r *row) {}, api.OK}, {"flags 7", 2, func(r *row) { r.flags = 7 }, api.OK}, {"flags 8", 2, func(r *row) { r.flags = 8 }, api.ErrForm}, {"flags 0x105", 2, func(r *row) { r.flags = 0x105 }, api.ErrForm}, {"flags 5 and the highest bit", 2, func(r *row) { r.flags = 5 | 1<<31 }, api.ErrForm},
		{"memsz 127", 2, func(r *row) { r.memsz = 127 }, api.ErrForm}, {"filesz 129", 2, func(r *row) { r.filesz, r.memsz = 129, 129 }, api.ErrForm}, {"filesz 100, memsz 200", 2, func(r *row) { r.filesz, r.memsz = 100, 200 }, api.OK}, {"filesz 0", 2, func(r *row) { r.filesz = 0 }, api.OK}, {"filesz wraps", 2, func(r *row) { r.off, r.addr, r.filesz, r.memsz = 4096, 0x401000, top-100, top }, api.ErrForm},
		{"alignment 8192", 2, func(r *row) { r.algn = 8192 }, api.ErrForm}, {"alignment 0", 2, func(r *row) { r.algn = 0 }, api.ErrForm}, {"alignment 4096 and more", 2, func(r *row) { r.algn = 4096 | 1<<40 }, api.ErrForm},
		{"another rest", 2, func(r *row) { r.off, r.filesz = 1, 127 }, api.ErrForm}, {"the same rest", 2, func(r *row) { r.off, r.addr, r.filesz = 1, 0x400001, 127 }, api.OK}, {"the same rest, further on", 2, func(r *row) { r.addr = 0x3ff000; r.memsz = 4096 }, api.OK},
		{"at the end of addresses", 2, func(r *row) { r.addr = 1<<47 - 4096; r.memsz = 4096 }, api.OK}, {"behind the end of addresses", 2, func(r *row) { r.addr = 1<<47 - 4096; r.memsz = 4097 }, api.ErrForm}, {"wraps", 2, func(r *row) { r.addr = top - 4095; r.memsz = 4097 }, api.ErrForm}, {"memsz very great", 2, func(r *row) { r.memsz = top }, api.ErrForm},
		{"at the end of a TypeDyn", 3, func(r *row) { r.addr = 1<<32 - 4096; r.memsz = 4096 }, api.OK}, {"behind the end of a TypeDyn", 3, func(r *row) { r.addr = 1<<32 - 4096; r.memsz = 4097 }, api.ErrForm}, {"a TypeDyn as high as a TypeExec", 3, func(r *row) { r.addr = 1 << 32 }, api.ErrForm},
	} {
		r := with(code, x.turn)
		entry := r.addr
		b := file(x.kind, entry, 128, r)
		parses(t, x.name, b, x.e)
		if h, _ := elf.Parse(b); x.e == api.OK && !slices.Equal(h.Segs, []api.Seg{r.seg()}) {
			t.Errorf("P12.1: %s: %v", x.name, h.Segs)
		}
	}
	nothing := row{1, 4, 0, 0x500000, 0, 0, 4096}
	parses(t, "a load of nothing", file(2, 0x400000, 256, code, nothing), api.ErrForm)
}

func TestKinds(t *testing.T) {
	second := func(r row) []byte {
		return file(2, 0x400000, 256, with(code, func(r *row) { r.filesz, r.memsz = 256, 256 }), r)
	}
	for _, x := range []struct {
		name string
		r    row
		e    api.Errno
	}{
		{"an unknown kind", row{4, 0, 0, top, 0, top, 3}, api.OK}, {"an unknown kind with flags", row{4, 8, 0, 0, 0, 0, 0}, api.ErrForm}, {"an unknown kind behind the file", row{0x6474e551, 0, 250, 0, 7, 7, 0}, api.ErrForm}, {"an unknown kind, filesz above memsz", row{4, 0, 0, 0, 7, 6, 0}, api.ErrForm}, {"kind 0", row{0, 7, 256, top, 0, 0, 0}, api.OK},
		{"a kind of 32 bits", row{1 | 1<<16, 7, 0, top, 0, top, 0}, api.OK},
		{"a dynamic segment", row{2, 0, 200, 0x4000c8, 16, 16, 0}, api.OK}, {"one at another place", row{2, 0, 200, 0x4000c9, 16, 16, 0}, api.ErrForm}, {"one in no load", row{2, 0, 200, 0x5000c8, 16, 16, 0}, api.ErrForm}, {"one over the end of the filled part", row{2, 0, 250, 0x4000fa, 7, 7, 0}, api.ErrForm}, {"one up to the end of the filled part", row{2, 0, 250, 0x4000fa, 6, 600, 0}, api.OK}, {"one ahead of the load", row{2, 0, 0, 0x3fffff, 7, 7, 0}, api.ErrForm},
		{"program headers", row{6, 4, 64, 0x400040, 112, 112, 8}, api.OK}, {"program headers elsewhere", row{6, 4, 64, 0x400041, 112, 112, 8}, api.ErrForm}, {"program headers in no load", row{6, 4, 64, 0x800040, 112, 112, 8}, api.ErrForm}, {"a known kind behind the end of addresses", row{6, 4, 64, 0x400040, 112, top, 8}, api.ErrForm},
		{"an interpreter", row{3, 4, 0, 0, 1, 1, 1}, api.OK}, {"an interpreter of nothing", row{3, 4, 0, 0, 0, 0, 1}, api.ErrForm}, {"an interpreter of 201", row{3, 4, 0, 0, 201, 201, 1}, api.OK}, {"an interpreter of 202", row{3, 4, 0, 0, 202, 202, 1}, api.ErrForm}, {"an interpreter behind the end of addresses", row{3, 4, 0, 1 << 47, 1, 1, 1}, api.ErrForm}, {"an interpreter in no load", row{3, 4, 9, 1<<47 - 1, 1, 1, 1}, api.OK},
	} {
		parses(t, x.name, second(x.r), x.e)
	}
	dyn, phdr, interp := row{2, 0, 200, 0x4000c8, 16, 16, 0}, row{6, 4, 64, 0x400040, 112, 112, 8}, row{3, 4, 0, 0, 1, 1, 1}
	big := with(code, func(r *row) { r.filesz, r.memsz = 512, 512 })
	for _, r := range []row{dyn, phdr, interp} {
		parses(t, "two of a kind", file(2, 0x400000, 512, big, r, r), api.ErrForm)
		parses(t, "one without a load", file(2, 0x400000, 512, r), api.ErrForm)
	}
	parses(t, "one of each, ahead of the load", file(2, 0x400000, 512, dyn, phdr, interp, big), api.OK)
	parses(t, "no load", file(3, 0, 256, row{4, 0, 0, 0, 0, 0, 0}), api.ErrForm)
	unknown := row{7, 0, 0, 0, 0, 0, 0}
	parses(t, "eight", file(2, 0x400000, 512, big, unknown, unknown, unknown, unknown, unknown, unknown, unknown), api.OK)
	parses(t, "nine", file(2, 0x400000, 600, big, unknown, unknown, unknown, unknown, unknown, unknown, unknown, unknown), api.ErrExec)
}

func TestLoadsRise(t *testing.T) {
	first := row{1, 5, 0, 0x400000, 256, 0x1001, 4096}
	for _, x := range []struct {
		addr uint64
		e    api.Errno
	}{{0x402000, api.OK}, {0x403000, api.OK}, {0x401000, api.ErrForm}, {0x400000, api.ErrForm}, {0x3ff000, api.ErrForm}, {0, api.ErrForm}} {
		parses(t, "a second load", file(2, 0x400000, 256, first, row{1, 6, 0, x.addr, 10, 10, 4096}), x.e)
		parses(t, "with another segment between", file(2, 0x400000, 256, first, row{9, 0, 0, 0, 0, 0, 0}, row{1, 6, 0, x.addr, 10, 10, 4096}), x.e)
	}
	even := row{1, 5, 0, 0x400000, 256, 0x1000, 4096}
	parses(t, "a load on the next page", file(2, 0x400000, 256, even, row{1, 6, 1, 0x401001, 10, 10, 4096}), api.OK)
	dyn := row{2, 0, 16, 0x402010, 16, 16, 0}
	parses(t, "a dynamic segment in the second load", file(2, 0x400000, 256, first, row{1, 6, 0, 0x402000, 32, 32, 4096}, dyn), api.OK)
	parses(t, "a dynamic segment at the beginning of a load", file(2, 0x400000, 256, first, row{1, 6, 32, 0x402020, 32, 32, 4096}, row{2, 0, 32, 0x402020, 16, 16, 0}), api.OK)
	parses(t, "one further on, in a load from a place on", file(2, 0x400000, 256, first, row{1, 6, 32, 0x402020, 32, 32, 4096}, row{2, 0, 40, 0x402028, 16, 16, 0}), api.OK)
	parses(t, "one at another place, in a load from a place on", file(2, 0x400000, 256, first, row{1, 6, 32, 0x402020, 32, 32, 4096}, row{2, 0, 40, 0x402030, 16, 16, 0}), api.ErrForm)
	parses(t, "behind its filled part", file(2, 0x400000, 256, first, row{1, 6, 0, 0x402000, 31, 32, 4096}, dyn), api.ErrForm)
}

func TestEntry(t *testing.T) {
	data := row{1, 6, 0, 0x402000, 10, 0x20, 4096}
	text := row{1, 1, 0, 0x404000, 10, 0x20, 4096}
	for _, x := range []struct {
		kind  uint16
		entry uint64
		e     api.Errno
	}{{2, 0x40001f, api.ErrForm}, {2, 0x402000, api.ErrForm}, {2, 0x404000, api.OK}, {2, 0x40400f, api.OK}, {2, 0x40401f, api.OK}, {2, 0x404020, api.ErrForm}, {2, 0x403fff, api.ErrForm}, {2, 0, api.ErrForm}, {3, 0, api.OK}, {3, 1, api.ErrForm}, {3, 0x404000, api.OK}, {2, top, api.ErrForm}} {
		parses(t, "entry", file(x.kind, x.entry, 256, data, text), x.e)
	}
	low := row{1, 5, 0, 0, 128, 128, 4096}
	parses(t, "entry 0 of a TypeExec that has it", file(2, 0, 128, low), api.OK)
	parses(t, "entry 0x400080", file(2, 0x400080, 128, code), api.ErrForm)
	parses(t, "flags 4", file(2, 0x400078, 128, with(code, func(r *row) { r.flags = 4 })), api.ErrForm)
}

func load(off, addr, filesz, memsz uint64) api.Seg {
	return api.Seg{Kind: 1, Off: off, Addr: addr, Filesz: filesz, Memsz: memsz}
}

func TestAnyHead(t *testing.T) {
	for _, x := range []struct {
		segs            []api.Seg
		phoff           uint64
		low, high, phdr uint64
		loads           int
	}{
		{nil, 64, 0, 0, 0, 0}, {[]api.Seg{{Kind: 2, Addr: 5, Memsz: 9}}, 0, 0, 0, 0, 0},
		{[]api.Seg{load(0, 0x1234, 999, 0x1000)}, 64, 0x1000, 0x3000, 0x1274, 1}, {[]api.Seg{load(0, 0x1000, 999, 0x1000), {Kind: 6, Addr: 77}, {Kind: 6, Addr: 78}}, 64, 0x1000, 0x2000, 77, 1},
		{[]api.Seg{load(0, 0x1000, 999, 0x1000), {Kind: 6}}, 64, 0x1000, 0x2000, 0, 1},
		{[]api.Seg{load(9, 0x9000, 0, 1), load(0, 0x1000, 111, 1), load(64, 0x5000, 168, 1)}, 64, 0x9000, 0x6000, 0x5000, 3},
		{[]api.Seg{load(65, 0x1000, 999, 1)}, 64, 0x1000, 0x2000, 0, 1}, {[]api.Seg{load(64, 0x1000, 56, 1)}, 64, 0x1000, 0x2000, 0x1000, 1}, {[]api.Seg{load(64, 0x1000, 55, 1)}, 64, 0x1000, 0x2000, 0, 1}, {[]api.Seg{load(0, 0x1000, 119, 1)}, 64, 0x1000, 0x2000, 0, 1},
		{[]api.Seg{load(0, top, 999, 0)}, 64, 0, 0, 0, 1}, {[]api.Seg{load(0, top-63, 999, 0)}, 64, 0, 0, 0, 1}, {[]api.Seg{load(0, top-64, 999, 0)}, 64, 0, 0, top, 1}, {[]api.Seg{load(0, top-4095, 999, 1)}, 0, 0, 0, top - 4095, 1}, {[]api.Seg{load(0, top-4095, 999, 0)}, 0, top - 4095, top - 4095, top - 4095, 1},
		{[]api.Seg{load(0, 5000, 999, top)}, 0, 0, 0, 5000, 1}, {[]api.Seg{load(0, top, 1, 1), load(0, 5000, 999, 1)}, 0, top - 4095, 8192, 5000, 2},
		{[]api.Seg{load(top-10, 0x1000, top, 1)}, top, 0x1000, 0x2000, 0x100a, 1}, {[]api.Seg{load(0, 0x1000, top, 1)}, top - 55, 0x1000, 0x2000, 0, 1}, {[]api.Seg{load(0, 0x1000, top, 1)}, top - 56, 0x1000, 0x2000, 0, 1},
		{slices.Repeat([]api.Seg{load(0, 4096, 56*99, 1)}, 100), 0, 4096, 8192, 0, 100}, {slices.Repeat([]api.Seg{load(0, 4096, 56*100, 1)}, 100), 0, 4096, 8192, 4096, 100},
	} {
		h := api.Head{Phoff: x.phoff, Segs: x.segs}
		if low, high := elf.Span(h); low != x.low || high != x.high {
			t.Errorf("P12.2: Span of %v: %#x, %#x", x.segs, low, high)
		}
		if got := elf.Phdr(h); got != x.phdr {
			t.Errorf("P12.2: Phdr of %v: %#x, want %#x", x.segs, got, x.phdr)
		}
		if got := elf.Loads(h); len(got) != x.loads {
			t.Errorf("P12.2: Loads of %v: %v", x.segs, got)
		}
	}
	l := []api.Seg{load(1, 2, 3, 4), {Kind: 3}, load(5, 6, 7, 8)}
	got := elf.Loads(api.Head{Segs: l})
	if !slices.Equal(got, []api.Seg{l[0], l[2]}) {
		t.Errorf("P12.2: Loads: %v", got)
	}
	got[0].Off = 99
	if l[0].Off != 1 {
		t.Error("R3: Loads shares its memory")
	}
}

func TestInterp(t *testing.T) {
	b := []byte("xx/lib/i\x00//\x00\x00a\x00b\x00" + strings.Repeat("a", 33) + "\x00" + strings.Repeat("/a", 100) + "\x00/\x00")
	at := func(off, filesz uint64) []api.Seg {
		return []api.Seg{load(0, 0, 0, 0), {Kind: 3, Off: off, Filesz: filesz}}
	}
	for _, x := range []struct {
		segs []api.Seg
		want string
		ok   bool
		e    api.Errno
	}{
		{nil, "", false, api.OK}, {at(2, 7), "/lib/i", true, api.OK}, {at(3, 6), "lib/i", true, api.OK}, {at(2, 6), "", false, api.ErrForm}, {at(2, 0), "", false, api.ErrForm}, {at(8, 1), "", false, api.ErrForm}, {at(9, 3), "//", true, api.OK}, {at(9, 4), "", false, api.ErrForm}, {at(13, 2), "a", true, api.OK}, {at(13, 4), "", false, api.ErrForm}, {at(17, 34), "", false, api.ErrForm}, {at(18, 33), strings.Repeat("a", 32), true, api.OK},
		{at(51, 201), strings.Repeat("/a", 100), true, api.OK}, {at(50, 202), "", false, api.ErrForm},
		{at(uint64(len(b))-2, 2), "/", true, api.OK}, {at(uint64(len(b))-2, 3), "", false, api.ErrForm}, {at(uint64(len(b)), 1), "", false, api.ErrForm}, {at(top, 1), "", false, api.ErrForm}, {at(top, 9), "", false, api.ErrForm}, {at(2, top), "", false, api.ErrForm},
		{append(at(2, 7), api.Seg{Kind: 3}), "/lib/i", true, api.OK}, {append(at(2, 6), at(2, 7)...), "", false, api.ErrForm},
	} {
		if got, ok, e := elf.Interp(b, api.Head{Segs: x.segs}); got != x.want || ok != x.ok || e != x.e {
			t.Errorf("P12.3: Interp of %v: %q, %v, %d", x.segs, got, ok, e)
		}
	}
	if got, ok, e := elf.Interp(nil, api.Head{Segs: at(0, 1)}); got != "" || ok || e != api.ErrForm {
		t.Errorf("P12.3: Interp of no bytes: %q, %v, %d", got, ok, e)
	}
}

// TestNoPanic turns bytes by chance: Parse ends, and what it tells holds.
func TestNoPanic(t *testing.T) {
	r := rand.New(rand.NewSource(12))
	base := file(3, 0x1010, 512, row{6, 4, 64, 64, 224, 224, 8}, row{1, 4, 0, 0, 512, 512, 4096}, row{1, 5, 0x10, 0x1010, 16, 32, 4096}, row{2, 4, 300, 300, 32, 32, 8})
	parses(t, "the base", base, api.OK)
	edges := []uint64{0, 1, 7, 8, 55, 56, 4095, 4096, 1<<32 - 1, 1 << 32, 1 << 47, 1 << 63, top, top - 4095}
	for range 60000 {
		b := slices.Clone(base)[:512-r.Intn(2)*r.Intn(512)]
		for range 1 + r.Intn(3) {
			if r.Intn(2) == 0 && len(b) >= 296 {
				binary.LittleEndian.PutUint64(b[64+8*r.Intn(28):], edges[r.Intn(len(edges))])
			} else if len(b) > 0 {
				b[r.Intn(len(b))] = byte(r.Intn(256))
			}
		}
		h, e := elf.Parse(b)
		if e != api.OK {
			continue
		}
		elf.Interp(b, h)
		low, high := elf.Span(h)
		loads := elf.Loads(h)
		for i, l := range loads {
			if i > 0 && l.Addr < (loads[i-1].Addr+loads[i-1].Memsz+4095)/4096*4096 || l.Addr < low || l.Addr+l.Memsz > high || l.Off+l.Filesz > uint64(len(b)) {
				t.Fatalf("P12.1: %v", loads)
			}
		}
	}
}
