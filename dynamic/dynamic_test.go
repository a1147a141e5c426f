package dynamic_test

import (
	"bytes"
	"encoding/binary"
	"math/rand"
	"reflect"
	"slices"
	"strings"
	"testing"

	"hostel/api"
	"hostel/dynamic"
)

const (
	top  = 1<<64 - 1
	base = 0x1000 // the address of the load
	off  = 16     // its offset
)

const (
	needed, pltRelSz, hash, strTab, symTab, rela, relaSz, relaEnt, strSz, symEnt, soname, rpath, pltRel, jmpRel, runpath = 1, 2, 4, 5, 6, 7, 8, 9, 10, 11, 14, 15, 20, 23, 29
)

func le(size int, l ...uint64) []byte {
	var b []byte
	for _, x := range l {
		b = append(b, binary.LittleEndian.AppendUint64(nil, x)[:size]...)
	}
	return b
}

// blob is a file that is one load, put together part by part; entries are those of its dynamic section.
type blob struct {
	b       []byte
	entries []uint64
}

func newBlob() *blob { return &blob{b: make([]byte, off)} }

// put lays a part, and is its address.
func (x *blob) put(part []byte) uint64 {
	at := uint64(len(x.b)) - off + base
	x.b = append(x.b, part...)
	return at
}

func (x *blob) tag(l ...uint64) *blob {
	x.entries = append(x.entries, l...)
	return x
}

// done is the file and its head; the dynamic section lies behind the load.
func (x *blob) done(more ...uint64) ([]byte, api.Head) {
	section := le(8, append(slices.Clone(x.entries), more...)...)
	load := api.Seg{Kind: 1, Off: off, Addr: base, Filesz: uint64(len(x.b)) - off}
	seg := api.Seg{Kind: 2, Off: uint64(len(x.b)), Filesz: uint64(len(section))}
	return append(slices.Clone(x.b), section...), api.Head{Segs: []api.Seg{seg, load}}
}

func sym(name uint32, info byte, section uint16, value, size uint64) []byte {
	return slices.Concat(le(4, uint64(name)), []byte{info, 0xaa}, le(2, uint64(section)), le(8, value, size))
}

func relaOf(at uint64, kind, symbol uint32, add uint64) []byte {
	return slices.Concat(le(8, at), le(4, uint64(kind), uint64(symbol)), le(8, add))
}

func parses(t *testing.T, name string, x *blob, want api.Errno) api.Dynamic {
	t.Helper()
	b, h := x.done(0, 0)
	d, e := dynamic.Parse(b, h)
	if e != want || e != api.OK && !reflect.DeepEqual(d, api.Dynamic{}) {
		t.Errorf("P13.1: %s: %+v, %d, want %d", name, d, e, want)
	}
	return d
}

func TestHash(t *testing.T) {
	for name, want := range map[string]uint32{"": 0, "a": 97, "printf": 125371814, "zzzzzzzz": 35793466, "\xff": 255} {
		if got := dynamic.Hash(name); got != want {
			t.Errorf("P13.2: Hash(%q): %d, want %d", name, got, want)
		}
	}
	r := rand.New(rand.NewSource(13))
	for range 2000 {
		b := make([]byte, r.Intn(30))
		r.Read(b)
		var x uint64
		for _, c := range b {
			x = (16*x + uint64(c)) % (1 << 32)
			high := x >> 28
			x = x%(1<<28) ^ high<<4
		}
		if got := dynamic.Hash(string(b)); uint64(got) != x {
			t.Fatalf("P13.2: Hash(%q): %d, want %d", b, got, x)
		}
	}
}

func TestEntries(t *testing.T) {
	heads := []api.Head{{}, {Segs: []api.Seg{{Kind: 1, Filesz: 99}, {Kind: 3}, {Kind: 6}}}}
	for _, h := range heads {
		if d, e := dynamic.Parse([]byte("abc"), h); e != api.OK || !reflect.DeepEqual(d, api.Dynamic{}) {
			t.Errorf("P13.1: without a dynamic segment: %+v, %d", d, e)
		}
		if at, ok := dynamic.Look(nil, h, ""); at != 0 || ok {
			t.Error("P13.3: without a dynamic segment")
		}
		if !dynamic.Right(nil, h) {
			t.Error("P13.4: without a dynamic segment")
		}
	}
	for _, x := range []struct {
		name   string
		b      []byte
		off, n uint64
		e      api.Errno
	}{
		{"24 bytes", make([]byte, 64), 0, 24, api.ErrForm}, {"17 bytes", make([]byte, 64), 0, 17, api.ErrForm}, {"no bytes", make([]byte, 64), 0, 0, api.ErrForm}, {"the tag 1", le(8, 1, 0), 0, 16, api.ErrForm}, {"the tag 0", le(8, 0, 7), 0, 16, api.OK}, {"an unknown tag", le(8, 77, 1, 0, 0), 0, 32, api.OK}, {"unknown tags twice", le(8, 77, 1, 77, 2, 3, 1, 0, 0), 0, 64, api.OK}, {"no end", le(8, 77, 1, 78, 2), 0, 32, api.ErrForm}, {"what stands behind the end", le(8, 0, 1, 5, 5, 14, 9, 14, 9), 0, 64, api.OK},
		{"behind the file", le(8, 0, 0), 1, 16, api.ErrForm}, {"longer than the file", le(8, 0, 0), 0, 32, api.ErrForm}, {"wraps", le(8, 0, 0), top - 15, 32, api.ErrForm}, {"far behind", le(8, 0, 0), top, 16, api.ErrForm}, {"very long", le(8, 0, 0), 0, top - 15, api.ErrForm}, {"at a place", le(8, 9, 0, 0, 0), 16, 16, api.OK},
	} {
		h := api.Head{Segs: []api.Seg{{Kind: 2, Off: x.off, Filesz: x.n}, {Kind: 2, Off: 0, Filesz: 1}}}
		d, e := dynamic.Parse(x.b, h)
		if e != x.e || !reflect.DeepEqual(d, api.Dynamic{}) {
			t.Errorf("P13.1: %s: %+v, %d", x.name, d, e)
		}
		if dynamic.Right(x.b, h) != (x.e == api.OK) {
			t.Errorf("P13.4: %s", x.name)
		}
	}
}

// whole is a blob with everything: two texts, two symbols, three relocations.
func whole() *blob {
	x := newBlob()
	texts := "\x00libc\x00me\x00/run\x00f\x00/other\x00"
	str := x.put([]byte(texts))
	syms := x.put(slices.Concat(sym(99, 0xff, 9, 9, 9), sym(14, 0x12, 0, 0x55, 7), sym(0, 0x20, 3, top, 0)))
	table := x.put(le(4, 1, 3, 1, 0, 2, 0))
	first := x.put(relaOf(8, 1, 1, top))
	second := x.put(slices.Concat(relaOf(16, 6, 0, 5), relaOf(top, 99, 2, 1<<63)))
	return x.tag(needed, 1, hash, table, strTab, str, symTab, syms, strSz, uint64(len(texts)), rela, first, relaSz, 24, relaEnt, 24, symEnt, 24, needed, 9, soname, 6, runpath, 9, rpath, 16, jmpRel, second, pltRelSz, 48, pltRel, 7, 0x6ffffef5, 1)
}

func TestWhole(t *testing.T) {
	d := parses(t, "the whole", whole(), api.OK)
	want := api.Dynamic{
		Needed: []string{"libc", "/run"}, Soname: "me", Run: "/run",
		Syms:  []api.Sym{{Name: "f", Value: 0x55, Size: 7, Bind: 1}, {Value: top, Bind: 2, Def: true}},
		Relas: []api.Rela{{Off: 8, Type: 1, Sym: 1, Add: -1}, {Off: 16, Type: 6, Add: 5}, {Off: top, Type: 99, Sym: 2, Add: -1 << 63}},
	}
	if !reflect.DeepEqual(d, want) {
		t.Errorf("P13.1: %+v, want %+v", d, want)
	}
	b, h := whole().done(0, 0)
	old := slices.Clone(b)
	d, _ = dynamic.Parse(b, h)
	clear(b)
	if !reflect.DeepEqual(d, want) {
		t.Error("R3: the bytes are kept")
	}
	d.Syms[0].Name, d.Needed[0], d.Relas[0].Off = "", "", 0
	if again, _ := dynamic.Parse(old, h); !reflect.DeepEqual(again, want) {
		t.Error("R3: the answer is shared")
	}
}

// with is the whole with the value of a tag turned; where the tag is not there it comes behind.
func with(tag, value uint64) *blob {
	x := whole()
	for i := 0; i < len(x.entries); i += 2 {
		if x.entries[i] == tag {
			x.entries[i+1] = value
			return x
		}
	}
	return x.tag(tag, value)
}

// without is the whole without some tags.
func without(tags ...uint64) *blob {
	x := whole()
	var l []uint64
	for i := 0; i < len(x.entries); i += 2 {
		if !slices.Contains(tags, x.entries[i]) {
			l = append(l, x.entries[i:i+2]...)
		}
	}
	x.entries = l
	return x
}

func TestTags(t *testing.T) {
	for _, tag := range []uint64{pltRelSz, hash, strTab, symTab, rela, relaSz, relaEnt, strSz, symEnt, soname, rpath, pltRel, jmpRel, runpath} {
		x := whole()
		i := 0
		for x.entries[i] != tag {
			i += 2
		}
		parses(t, "a tag twice", x.tag(tag, x.entries[i+1]), api.ErrForm)
	}
	parses(t, "NEEDED three times", whole().tag(needed, 0), api.OK)
	parses(t, "an unknown tag twice", whole().tag(0x6ffffef5, 1), api.OK)
	for _, tag := range []uint64{hash, symTab, rela, relaSz, jmpRel, pltRelSz, strTab, strSz} {
		parses(t, "one of two", without(tag), api.ErrForm)
		parses(t, "one alone", newBlob().tag(tag, 0), api.ErrForm)
	}
	for _, tag := range []uint64{symEnt, relaEnt} {
		parses(t, "a size of 25", with(tag, 25), api.ErrForm)
		parses(t, "a size of 0", with(tag, 0), api.ErrForm)
		parses(t, "a size alone", newBlob().tag(tag, 24), api.OK)
	}
	parses(t, "PLTREL 17", with(pltRel, 17), api.ErrForm)
	parses(t, "PLTREL alone", newBlob().tag(pltRel, 7), api.OK)
	if d := parses(t, "without relocations", without(rela, relaSz, jmpRel, pltRelSz), api.OK); len(d.Relas) != 0 {
		t.Errorf("P13.1: %v", d.Relas)
	}
	if d := parses(t, "without RUNPATH", without(runpath), api.OK); d.Run != "/other" {
		t.Errorf("P13.1: RPATH: %q", d.Run)
	}
	if d := parses(t, "an empty RUNPATH", with(runpath, 0), api.OK); d.Run != "" {
		t.Errorf("P13.1: RUNPATH of nothing: %q", d.Run)
	}
	if d := parses(t, "without both", without(runpath, rpath, soname, needed), api.OK); d.Run != "" || d.Soname != "" || len(d.Needed) != 0 {
		t.Errorf("P13.1: %v", d)
	}
	x := newBlob()
	s := x.put([]byte{0})
	x.tag(strTab, s, strSz, 1)
	for range 8 {
		x.tag(needed, 0)
	}
	if d := parses(t, "eight NEEDED", x, api.OK); len(d.Needed) != 8 {
		t.Errorf("P13.1: %v", d.Needed)
	}
	parses(t, "nine NEEDED", x.tag(needed, 0), api.ErrBig)
	parses(t, "nine NEEDED, no string table", with(strTab, 1).tag(needed, 0, needed, 0, needed, 0, needed, 0, needed, 0, needed, 0, needed, 0), api.ErrBig)
	parses(t, "nine NEEDED, a tag twice", x.tag(strSz, 1), api.ErrForm)
}

func TestTexts(t *testing.T) {
	for name, x := range map[string]*blob{
		"a table that is not laid": with(strTab, 1), "a table behind its load": with(strSz, 1<<20), "a table that wraps": with(strTab, top), "a table of all": with(strSz, top),
		"NEEDED behind the table": with(needed, 23), "SONAME behind the table": with(soname, 23), "RPATH behind the table": with(rpath, 23), "RUNPATH behind the table": with(runpath, 23), "NEEDED far behind": with(needed, top),
		"a table that ends too early": with(strSz, 22), "no string table": without(strTab, strSz),
		"NEEDED without a table": newBlob().tag(needed, 0), "SONAME without a table": newBlob().tag(soname, 0), "RPATH without a table": newBlob().tag(rpath, 0),
	} {
		parses(t, name, x, api.ErrForm)
	}
	if d := parses(t, "the last byte", with(soname, 22), api.OK); d.Soname != "" {
		t.Errorf("P13.1: %q", d.Soname)
	}
	if d := parses(t, "within a text", with(soname, 2), api.OK); d.Soname != "ibc" {
		t.Errorf("P13.1: %q", d.Soname)
	}
	x := newBlob()
	x.put(make([]byte, 9))
	parses(t, "an empty table at the load's end", x.tag(strTab, base+9, strSz, 0), api.OK)
	y := newBlob()
	y.put(make([]byte, 9))
	parses(t, "an empty table behind the load's end", y.tag(strTab, base+10, strSz, 0), api.ErrForm)
	z := newBlob()
	z.put(make([]byte, 9))
	parses(t, "an empty table ahead of the load", z.tag(strTab, base-1, strSz, 0), api.ErrForm)
}

// symbols is a blob with n symbols (that of number 0 too) without names, buckets and links of noughts.
func symbols(n, buckets int) *blob {
	x := newBlob()
	s := x.put([]byte{0})
	return x.tag(strTab, s, strSz, 1, symTab, x.put(make([]byte, 24*n)), hash, x.put(append(le(4, uint64(buckets), uint64(n)), make([]byte, 4*(n+buckets))...)))
}

func TestSymbols(t *testing.T) {
	for n, want := range map[int]int{0: 0, 1: 0, 2: 1, 65: 64} {
		if d := parses(t, "symbols", symbols(n, 3), api.OK); len(d.Syms) != want {
			t.Errorf("P13.1: of %d: %d", n, len(d.Syms))
		}
	}
	parses(t, "66 symbols", symbols(66, 1), api.ErrBig)
	parses(t, "no buckets", symbols(3, 0), api.OK)
	parses(t, "a table that is not laid", with(hash, 0), api.ErrForm)
	parses(t, "symbols that are not laid", with(symTab, 1), api.ErrForm)
	long := whole()
	end := uint64(len(long.b)) - off + base
	parses(t, "a table of 7 bytes", with(hash, end-7), api.ErrForm)
	parses(t, "a table of 8 bytes and no more", with(hash, end-8), api.ErrBig) // what is added to the last relocation
	parses(t, "symbols up to the end", with(symTab, end-72), api.ErrForm)      // laid, but their names are none
	odd := with(hash, 0)
	copy(odd.b, bytes.Repeat([]byte{0xff}, off))
	parses(t, "a table that is not laid, whatever the file begins with", odd, api.ErrForm)
	x := newBlob()
	x.put(le(4, 1, 65))
	y := x.tag(hash, base, symTab, base)
	parses(t, "a table of which the front alone is there", y, api.ErrForm)
	z := newBlob()
	z.put(le(4, 1<<32-1, 1, 0, 0))
	parses(t, "very many buckets", z.tag(hash, base, symTab, base), api.ErrForm)
	for info, e := range map[byte]api.Errno{0x00: api.OK, 0x0f: api.OK, 0x1f: api.OK, 0x2f: api.OK, 0x30: api.ErrForm, 0xf0: api.ErrForm} {
		x := symbols(2, 1)
		x.b[off+1+24+4] = info
		if d := parses(t, "info", x, e); e == api.OK && d.Syms[0].Bind != info>>4 {
			t.Errorf("P13.1: info %x: %v", info, d.Syms)
		}
		x.b[off+1+4] = 0xff // the first symbol says nothing
		parses(t, "info of the first one", x, e)
	}
	nameless := symbols(2, 1)
	nameless.b[off+1+24] = 1
	parses(t, "a name behind the table", nameless, api.ErrForm)
	first := symbols(2, 1)
	first.b[off+1] = 1
	parses(t, "a name of the first one", first, api.OK)
	second := symbols(2, 1)
	second.entries = second.entries[4:]
	parses(t, "a symbol without a string table", second, api.ErrForm)
	alone := symbols(1, 1)
	alone.entries = alone.entries[4:]
	parses(t, "no symbol, no string table", alone, api.OK)
	def := symbols(2, 1)
	def.b[off+1+24+7] = 1
	if d := parses(t, "a section of 256", def, api.OK); !d.Syms[0].Def {
		t.Error("P13.1: Def")
	}
}

func TestRelas(t *testing.T) {
	parses(t, "RELASZ 25", with(relaSz, 25), api.ErrForm)
	parses(t, "PLTRELSZ 12", with(pltRelSz, 12), api.ErrForm)
	parses(t, "RELASZ, all of 24", with(relaSz, 1<<63/24*24), api.ErrBig)
	parses(t, "a table that is not laid", with(rela, 0), api.ErrForm)
	parses(t, "a table that is not laid, of JMPREL", with(jmpRel, 0), api.ErrForm)
	parses(t, "a table behind the end", with(pltRelSz, 72), api.ErrForm)
	for n, e := range map[int]api.Errno{30: api.OK, 32: api.OK, 33: api.ErrBig, 100: api.ErrBig} {
		x := newBlob()
		a := x.put(make([]byte, 24*n))
		b := x.put(make([]byte, 24*32))
		if d := parses(t, "relocations", x.tag(rela, a, relaSz, uint64(24*n), jmpRel, b, pltRelSz, 24*32), e); e == api.OK && len(d.Relas) != n+32 {
			t.Errorf("P13.1: %d and 32: %d", n, len(d.Relas))
		}
	}
	for _, tag := range []uint64{rela, jmpRel} {
		x := newBlob()
		x.put(make([]byte, 65*24))
		size := map[uint64]uint64{rela: relaSz, jmpRel: pltRelSz}[tag]
		parses(t, "64", newTable(x, tag, size, 64*24), api.OK)
		parses(t, "65", newTable(x, tag, size, 65*24), api.ErrBig)
		parses(t, "65 that are not laid", newTable(newBlob(), tag, size, 65*24), api.ErrBig)
		parses(t, "none", newTable(x, tag, size, 0), api.OK)
		parses(t, "none, at no place", newTable(newBlob(), tag, size, 0).tag(77, 0), api.OK)
		bad := newTable(x, tag, size, 0)
		bad.entries[1] = base - 1
		parses(t, "none, ahead of the load", bad, api.ErrForm)
	}
	parses(t, "one ErrBig, one that is no multiple", with(relaSz, 65*24).turn(pltRelSz, 1), api.ErrForm)
	for number, e := range map[uint32]api.Errno{0: api.OK, 1: api.OK, 2: api.OK, 3: api.ErrForm, 1<<32 - 1: api.ErrForm} {
		x := whole()
		binary.LittleEndian.PutUint32(x.b[len(x.b)-12:], number)
		parses(t, "a relocation's symbol", x, e)
	}
	x := newBlob()
	parses(t, "a symbol where there are none", newTable(x, rela, relaSz, 24).lay(relaOf(0, 1, 1, 0)), api.ErrForm)
}

func newTable(x *blob, tag, sizeTag, size uint64) *blob {
	return &blob{b: x.b, entries: []uint64{tag, base, sizeTag, size}}
}

func (x *blob) lay(part []byte) *blob {
	x.put(part)
	return x
}

func (x *blob) turn(tag, value uint64) *blob {
	for i := 0; i < len(x.entries); i += 2 {
		if x.entries[i] == tag {
			x.entries[i+1] = value
		}
	}
	return x
}

// TestLaid: which load counts, and where its bytes are.
func TestLaid(t *testing.T) {
	section := le(8, soname, 0, strTab, 0x100, strSz, 4, 0, 0)
	b := slices.Concat([]byte("abc\x00xyz\x00"), section)
	dyn := api.Seg{Kind: 2, Off: 8, Filesz: uint64(len(section))}
	load := func(off, addr, filesz uint64) api.Seg {
		return api.Seg{Kind: 1, Off: off, Addr: addr, Filesz: filesz, Memsz: top}
	}
	for _, x := range []struct {
		name  string
		loads []api.Seg
		want  string
		e     api.Errno
	}{
		{"none", nil, "", api.ErrForm}, {"one", []api.Seg{load(0, 0x100, 4)}, "abc", api.OK}, {"one that is too short", []api.Seg{load(0, 0x100, 3)}, "", api.ErrForm}, {"further on", []api.Seg{load(0, 0xfc, 8)}, "xyz", api.OK}, {"behind it", []api.Seg{load(0, 0x101, 8)}, "", api.ErrForm},
		{"the second of two", []api.Seg{load(0, 0x100, 3), load(4, 0x100, 4)}, "xyz", api.OK}, {"the first of two", []api.Seg{load(4, 0x100, 4), load(0, 0x100, 4)}, "xyz", api.OK},
		{"the first of two, not in the file", []api.Seg{load(1<<40, 0x100, 4), load(0, 0x100, 4)}, "", api.ErrForm}, {"an offset that wraps", []api.Seg{load(top-3, 0xfc, 8)}, "", api.ErrForm}, {"an end that wraps", []api.Seg{load(top-3, 0x100, 4)}, "", api.ErrForm},
		{"a part that is very long", []api.Seg{load(0, 0x100, top)}, "abc", api.OK}, {"no load", []api.Seg{{Kind: 6, Addr: 0x100, Filesz: 4}}, "", api.ErrForm},
	} {
		d, e := dynamic.Parse(b, api.Head{Segs: append([]api.Seg{dyn}, x.loads...)})
		if d.Soname != x.want || e != x.e {
			t.Errorf("P13.1: %s: %q, %d", x.name, d.Soname, e)
		}
	}
}

// table is a blob with symbols of these names, and with these buckets and links.
func table(names []string, buckets, links []uint64) *blob {
	x := newBlob()
	texts := "\x00"
	var at []uint32
	for _, name := range names {
		at = append(at, uint32(len(texts)))
		texts += name + "\x00"
	}
	s := x.put([]byte(texts))
	all := sym(0, 0, 0, 0, 0)
	for _, place := range at {
		all = append(all, sym(place, 0x10, 1, 0, 0)...)
	}
	syms := x.put(all)
	return x.tag(strTab, s, strSz, uint64(len(texts)), symTab, syms, hash, x.put(slices.Concat(le(4, uint64(len(buckets)), uint64(len(links))), le(4, buckets...), le(4, links...))))
}

func TestLookAndRight(t *testing.T) {
	abc := []string{"a", "b", "c"} // Hash: 97, 98, 99
	for _, x := range []struct {
		name           string
		names          []string
		buckets, links []uint64
		found          string // of a, b, c: the place, or -
		right          bool
	}{
		{"one bucket", abc, []uint64{1}, []uint64{0, 2, 3, 0}, "012", true}, {"backwards", abc, []uint64{3}, []uint64{9, 0, 1, 2}, "012", true}, {"two buckets", abc, []uint64{2, 3}, []uint64{0, 0, 0, 1}, "012", true}, {"the wrong bucket", abc, []uint64{1, 2}, []uint64{0, 3, 0, 0}, "---", false},
		{"a bucket that wants one", abc, []uint64{1}, []uint64{0, 3, 0, 0}, "0-2", false}, {"a circle", abc, []uint64{1}, []uint64{0, 2, 3, 1}, "012", false}, {"a link to itself", abc, []uint64{1}, []uint64{0, 2, 2, 0}, "01-", false}, {"a link too far", abc, []uint64{1}, []uint64{0, 2, 3, 4}, "012", false}, {"a link far too far", abc, []uint64{1}, []uint64{0, 2, 1<<32 - 1, 0}, "01-", false}, {"a bucket too far", abc, []uint64{4}, []uint64{0, 2, 3, 0}, "---", false},
		{"no buckets", abc, nil, []uint64{0, 2, 3, 0}, "---", false}, {"an empty bucket", abc, []uint64{0}, []uint64{0, 2, 3, 0}, "---", false},
		{"two of a name", []string{"a", "b", "a"}, []uint64{3}, []uint64{0, 0, 1, 2}, "21-", true}, {"two of a name, one of them alone", []string{"a", "b", "a"}, []uint64{1}, []uint64{0, 2, 0, 0}, "01-", false},
		{"nameless ones", []string{"", "b", ""}, []uint64{2}, []uint64{0, 0, 0, 0}, "-1-", true}, {"no names, no buckets", []string{"", ""}, nil, []uint64{0, 0, 0}, "---", true}, {"no symbols", nil, []uint64{0}, []uint64{0}, "---", true}, {"nothing at all", nil, nil, nil, "---", true},
		{"a circle elsewhere", abc, []uint64{3, 1, 2}, []uint64{0, 0, 2, 0}, "012", false},
	} {
		b, h := table(x.names, x.buckets, x.links).done(0, 0)
		found := ""
		for _, name := range abc {
			at, ok := dynamic.Look(b, h, name)
			if ok {
				found += string(rune('0' + at))
			} else {
				found += "-"
			}
			if !ok && at != 0 {
				t.Errorf("P13.3: %s: %s: %d", x.name, name, at)
			}
		}
		if found != x.found {
			t.Errorf("P13.3: %s: %s", x.name, found)
		}
		if got := dynamic.Right(b, h); got != x.right {
			t.Errorf("P13.4: %s: %v", x.name, got)
		}
		bad, h := table(x.names, x.buckets, x.links).done()
		if _, ok := dynamic.Look(bad, h, "a"); ok || dynamic.Right(bad, h) {
			t.Errorf("P13.3: %s without an end", x.name)
		}
	}
	b, h := without(hash, symTab, rela, relaSz, jmpRel, pltRelSz).done(0, 0)
	if at, ok := dynamic.Look(b, h, "f"); at != 0 || ok || !dynamic.Right(b, h) {
		t.Error("P13.3: without a hash table")
	}
}

func TestLookAgrees(t *testing.T) {
	r := rand.New(rand.NewSource(131))
	for range 300 {
		var names []string
		for range r.Intn(12) {
			names = append(names, strings.Repeat(string(rune('a'+r.Intn(4))), r.Intn(3)))
		}
		n := 1 + r.Intn(4)
		buckets, links := make([]uint64, n), make([]uint64, len(names)+1)
		for i, name := range names {
			at := &buckets[dynamic.Hash(name)%uint32(n)]
			for *at != 0 {
				at = &links[*at]
			}
			*at = uint64(i + 1)
		}
		b, h := table(names, buckets, links).done(0, 0)
		if !dynamic.Right(b, h) {
			t.Fatalf("P13.4: %q, %v, %v", names, buckets, links)
		}
		for _, name := range []string{"a", "b", "cc", "dd", "x", "aa"} {
			at, ok := dynamic.Look(b, h, name)
			if ok != slices.Contains(names, name) || ok && names[at] != name {
				t.Fatalf("P13.3: %q in %q: %d, %v", name, names, at, ok)
			}
		}
	}
}

// TestNoPanic turns bytes and heads by chance.
func TestNoPanic(t *testing.T) {
	r := rand.New(rand.NewSource(132))
	edges := []uint64{0, 1, 2, 15, 16, 24, 25, base, base - 1, 1 << 32, 1 << 47, 1 << 63, top, top - 15}
	for range 40000 {
		b, h := whole().done(0, 0)
		for range 1 + r.Intn(3) {
			switch r.Intn(4) {
			case 0:
				b[r.Intn(len(b))] = byte(r.Intn(256))
			case 1:
				binary.LittleEndian.PutUint64(b[r.Intn(len(b)-8):], edges[r.Intn(len(edges))])
			case 2:
				b = b[:len(b)-r.Intn(8)]
			default:
				s := &h.Segs[r.Intn(2)]
				*[]*uint64{&s.Off, &s.Addr, &s.Filesz, &s.Memsz}[r.Intn(4)] = edges[r.Intn(len(edges))]
			}
		}
		d, e := dynamic.Parse(b, h)
		at, ok := dynamic.Look(b, h, "f")
		right := dynamic.Right(b, h)
		if e != api.OK && (ok || right || !reflect.DeepEqual(d, api.Dynamic{})) {
			t.Fatalf("P13.1: %d: %+v", e, d)
		}
		if ok && d.Syms[at].Name != "f" || len(d.Needed) > 8 || len(d.Syms) > 64 || len(d.Relas) > 64 {
			t.Fatalf("P13.3: %d of %+v", at, d)
		}
	}
}
