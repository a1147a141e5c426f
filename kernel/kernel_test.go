package kernel_test

import (
	"bytes"
	"reflect"
	"slices"
	"strings"
	"testing"

	"hostel/api"
	"hostel/kernel"
	"hostel/maker"
)

const (
	top = 1<<64 - 1
	mb  = api.MapBase
)

func object(x api.Spec) []byte {
	b, e := maker.Make(x)
	if e != api.OK {
		panic(e)
	}
	return b
}

// long is a file's bytes: no two of its pages are the same.
func long(n int) []byte {
	b := make([]byte, n)
	for i := range b {
		b[i] = byte(i + i/4096)
	}
	return b
}

// entries are the files of most tests: 2 /bin/a, 3 /bin/set (that lends 5), 4 /bin/d (with libraries and an interpreter), 5 /s, 6 /secret (of 5), 7 /long, 8 /empty, 9 /link to long, 10 to 12 /lib with its files, 13 /own (of 7).
func entries() []api.Entry {
	a := object(api.Spec{Type: 2, Entry: 0x410000, Text: []byte{0xc3}, Data: []byte("data"), More: 5000})
	d := object(api.Spec{Type: 3, Entry: 0x10000, Interp: "/lib/ld", Text: []byte{0xc3}, Data: make([]byte, 9), Dynamic: true, Dyn: api.Dynamic{Needed: []string{"c"}, Syms: []api.Sym{{Name: "f", Bind: 1}}, Relas: []api.Rela{{Off: 0x20000, Type: 1, Sym: 1}}}})
	c := object(api.Spec{Type: 3, Text: []byte("lib"), Dynamic: true, Dyn: api.Dynamic{Syms: []api.Sym{{Name: "f", Value: 9, Bind: 1, Def: true}}}})
	ld := object(api.Spec{Type: 3, Entry: 0x10000, Text: []byte("ld")})
	file := func(path string, mode uint16, uid uint32, data []byte) api.Entry {
		return api.Entry{Path: path, Kind: 1, Mode: mode, Uid: uid, Gid: 1, Data: data}
	}
	return []api.Entry{
		{Path: "/bin", Kind: 2, Mode: 0o755}, file("/bin/a", 0o755, 5, a), file("/bin/set", 0o4755, 5, a), file("/bin/d", 0o755, 5, d), file("/s", 0o755, 5, []byte("#!/bin/a x")), file("/secret", 0o600, 5, []byte("secret")), file("/long", 0o644, 5, long(65536)), file("/empty", 0o644, 5, nil), {Path: "/link", Kind: 3, To: "long"},
		{Path: "/lib", Kind: 2, Mode: 0o755}, file("/lib/c", 0o755, 0, c), file("/lib/ld", 0o755, 0, ld), file("/own", 0o600, 7, long(5000)),
	}
}

func config(frames int) api.Config {
	return api.Config{Frames: frames, Entries: entries(), Path: "/bin/a", Argv: []string{"a"}, Env: []string{"X=1"}, Creds: api.Creds{Uid: 7, Euid: 7, Suid: 7, Gid: 7}}
}

func started(t *testing.T, frames int) *kernel.Kernel {
	t.Helper()
	k, e := kernel.New(config(frames))
	if k == nil || e != api.OK {
		t.Fatalf("P26.1: New: %d", e)
	}
	return k
}

// one is a step and what is answered to it.
type one struct {
	pid   int
	call  api.Call
	value uint64
	bytes string
	e     api.Errno
}

func does(t *testing.T, k *kernel.Kernel, l ...one) {
	t.Helper()
	for i, x := range l {
		got := k.Do(x.pid, x.call)
		if got.Err != x.e || got.Value != x.value || string(got.Bytes) != x.bytes {
			t.Errorf("P26.2: step %d, %d does %+v: %d, %#x, %.40q, want %d, %#x, %.40q", i, x.pid, x.call, got.Err, got.Value, got.Bytes, x.e, x.value, x.bytes)
		}
	}
}

func number(kind uint8, l ...uint64) api.Call {
	c := api.Call{Kind: kind}
	for i, x := range l {
		*[]*uint64{&c.A, &c.B, &c.C, &c.D, &c.E}[i] = x
	}
	return c
}

func mapped(l ...uint64) api.Call     { return number(api.CallMap, l...) }
func unmap(a, b uint64) api.Call      { return number(api.CallUnmap, a, b) }
func protect(a, b, c uint64) api.Call { return number(api.CallProtect, a, b, c) }
func load(a, b uint64) api.Call       { return number(api.CallLoad, a, b) }
func read(a, b uint64) api.Call       { return number(api.CallRead, a, b) }
func exit(a uint64) api.Call          { return number(api.CallExit, a) }
func closed(a uint64) api.Call        { return number(api.CallClose, a) }

func store(a uint64, b string) api.Call {
	return api.Call{Kind: api.CallStore, A: a, Bytes: []byte(b)}
}

func open(path string, a uint64) api.Call {
	return api.Call{Kind: api.CallOpen, Path: path, A: a}
}

func exec(path string, argv ...string) api.Call {
	return api.Call{Kind: api.CallExec, Path: path, Argv: argv, Env: []string{"X=1", "LD_DEBUG=1"}}
}

var fork, wait = api.Call{Kind: api.CallFork}, api.Call{Kind: api.CallWait}

func TestExamples(t *testing.T) {
	k := started(t, 200)
	does(t, k,
		one{1, mapped(0, 1, 6), mb, "", 0}, one{1, store(mb, "\x07\x08"), 0, "", 0}, one{1, fork, 2, "", 0}, one{2, load(mb, 2), 0, "\x07\x08", 0}, one{2, store(mb, "\x09"), 0, "", 0}, one{1, load(mb, 1), 0, "\x07", 0},
		one{2, exec("/bin/a"), 0, "", 0}, one{2, load(mb, 1), 0, "", api.ErrFault}, one{2, exec("/nowhere"), 0, "", api.ErrNoEnt}, one{2, exec("/bin"), 0, "", api.ErrAccess},
		one{2, exit(5), 0, "", 0}, one{1, wait, 2, "\x05\x00\x00\x00\x00\x00\x00\x00", 0}, one{1, wait, 0, "", api.ErrChild},
		one{1, open("/bin/a", 0), 0, "", 0}, one{1, read(0, 4), 0, "\x7fELF", 0}, one{1, closed(0), 0, "", 0}, one{1, closed(0), 0, "", api.ErrFd},
		one{1, unmap(1, 1), 0, "", api.ErrArg}, one{1, load(0, 1), 0, "", api.ErrFault}, one{3, fork, 0, "", api.ErrPid}, one{1, api.Call{Kind: 99}, 0, "", api.ErrCall},
		one{1, exit(0), 0, "", 0},
	)
	k.Cache().Drop()
	if len(k.Procs()) != 0 || k.Cache().Pool().Free() != 200 {
		t.Errorf("W7: %v, %d", k.Procs(), k.Cache().Pool().Free())
	}
}

func TestNew(t *testing.T) {
	with := func(turn func(c *api.Config)) api.Config {
		c := config(200)
		turn(&c)
		return c
	}
	for name, x := range map[string]struct {
		c api.Config
		e api.Errno
	}{
		"no frames": {with(func(c *api.Config) { c.Frames, c.Entries = 0, make([]api.Entry, 65) }), api.ErrArg}, "1025 frames": {with(func(c *api.Config) { c.Frames = 1025 }), api.ErrArg}, "1024 frames": {with(func(c *api.Config) { c.Frames = 1024 }), api.OK}, "65 entries": {with(func(c *api.Config) { c.Entries, c.Path = make([]api.Entry, 65), "" }), api.ErrMany}, "an entry twice": {with(func(c *api.Config) { c.Entries = append(c.Entries, c.Entries[0]) }), api.ErrThere},
		"no program": {with(func(c *api.Config) { c.Path = "/nowhere" }), api.ErrNoEnt}, "a directory": {with(func(c *api.Config) { c.Path = "/bin" }), api.ErrAccess}, "33 arguments": {with(func(c *api.Config) { c.Argv = make([]string, 33) }), api.ErrBig}, "33 variables": {with(func(c *api.Config) { c.Env = make([]string, 33) }), api.ErrBig}, "9 groups": {with(func(c *api.Config) { c.Creds.Groups = make([]uint32, 9) }), api.ErrMany}, "2 frames": {with(func(c *api.Config) { c.Frames = 2 }), api.ErrNoMem},
	} {
		if k, e := kernel.New(x.c); e != x.e || (k != nil) != (e == api.OK) {
			t.Errorf("P26.1: %s: %d", name, e)
		}
	}
	c := config(200)
	k, _ := kernel.New(c)
	c.Entries[6].Data[0], c.Argv[0], c.Path = 99, "x", "y"
	does(t, k, one{1, open("/long", 0), 0, "", 0}, one{1, read(0, 1), 0, "\x00", 0})
	p := k.Procs()
	if len(p) != 1 || p[0].Pid != 1 || p[0].State != api.StRuns || p[0].Entry != 0x410000 || p[0].Creds.Euid != 7 {
		t.Errorf("P26.1: %+v", p)
	}
}

func TestWhichErrorFirst(t *testing.T) {
	k := started(t, 200)
	before := k.Procs()
	does(t, k,
		one{9, api.Call{Kind: 0}, 0, "", api.ErrCall}, one{9, api.Call{Kind: api.CallFork, A: 1}, 0, "", api.ErrArg}, one{9, load(0, 4097), 0, "", api.ErrBig}, one{9, open("", 0), 0, "", api.ErrNoEnt}, one{9, load(0, 1), 0, "", api.ErrPid}, one{0, fork, 0, "", api.ErrPid}, one{-1, fork, 0, "", api.ErrPid}, one{17, wait, 0, "", api.ErrPid}, one{1 << 40, exit(1), 0, "", api.ErrPid}, one{1, exec("/bin/a", make([]string, 33)...), 0, "", api.ErrBig}, one{1, store(mb, strings.Repeat("x", 4097)), 0, "", api.ErrBig},
	)
	if !reflect.DeepEqual(before, k.Procs()) {
		t.Error("P26.5: an error turned something")
	}
}

func TestMaps(t *testing.T) {
	k := started(t, 200)
	pages := func(b ...byte) string { return string(b) }
	whole := long(65536)
	does(t, k,
		one{1, mapped(0, 0, 6), 0, "", api.ErrArg}, one{1, mapped(0, top, 6), 0, "", api.ErrArg}, one{1, mapped(0, top-4094, 6), 0, "", api.ErrArg}, one{1, mapped(0, top-4095, 6), 0, "", api.ErrNoMem}, one{1, mapped(0, 1, 8), 0, "", api.ErrArg}, one{1, mapped(0, 1, 8, 1), 0, "", api.ErrArg}, one{1, mapped(0, 1, 8, 0, 4096), 0, "", api.ErrArg}, one{1, mapped(0, 1<<47, 8), 0, "", api.ErrArg}, one{1, mapped(0, 1, top), 0, "", api.ErrArg}, one{1, mapped(0, 1, 1<<8|6), 0, "", api.ErrArg},
		one{1, mapped(0, 1, 6, 1), 0, "", api.ErrFd}, one{1, mapped(0, 1, 6, 17), 0, "", api.ErrFd}, one{1, mapped(0, 1, 6, top), 0, "", api.ErrFd}, one{1, mapped(0, 1, 6, 1<<32+1), 0, "", api.ErrFd}, one{1, mapped(0, 0, 6, 9), 0, "", api.ErrArg}, one{1, mapped(0, 1, 6, 0, 4096), 0, "", api.ErrArg}, one{1, mapped(0, 1, 6, 1, 1), 0, "", api.ErrFd},
		one{1, mapped(mb+1, 1, 6), 0, "", api.ErrArg}, one{1, mapped(1<<47-4096, 4097, 6), 0, "", api.ErrArg}, one{1, mapped(top-4095, 4096, 6), 0, "", api.ErrArg}, one{1, mapped(top-4095, 4097, 6), 0, "", api.ErrArg}, one{1, mapped(0, 1<<47, 6), 0, "", api.ErrNoMem}, one{1, mapped(0, 1<<47, 6, 9), 0, "", api.ErrFd},
		one{1, mapped(1<<47-4096, 1, 4), 1<<47 - 4096, "", 0}, one{1, load(1<<47-1, 1), 0, "\x00", 0},
		one{1, mapped(0, 4097, 6), mb, "", 0}, one{1, mapped(0, 4096, 0), mb + 0x2000, "", 0}, one{1, load(mb+0x2000, 1), 0, "", api.ErrFault}, one{1, mapped(mb+0x4000, 1, 2), mb + 0x4000, "", 0}, one{1, load(mb+0x4000, 1), 0, "", api.ErrFault}, one{1, mapped(0, 8192, 4), mb + 0x5000, "", 0}, one{1, mapped(0, 1, 4), mb + 0x3000, "", 0},
		one{1, open("/long", 0), 0, "", 0}, one{1, open("/empty", 1), 1, "", 0},
		one{1, mapped(mb+0x10000, 70000, 6, 1), mb + 0x10000, "", 0}, one{1, load(mb+0x10000+4095, 2), 0, pages(whole[4095], whole[4096]), 0}, one{1, load(mb+0x1ffff, 2), 0, pages(whole[65535], 0), 0}, one{1, load(mb+0x22000, 1), 0, "", api.ErrFault},
		one{1, mapped(mb+0x30000, 4096, 6, 1, 0xf000), mb + 0x30000, "", 0}, one{1, load(mb+0x30000, 1), 0, pages(whole[0xf000]), 0}, one{1, mapped(mb+0x30000, 4096, 6, 1, 1), 0, "", api.ErrArg}, one{1, mapped(mb+0x30000, 4096, 6, 1, 1<<48-4095), 0, "", api.ErrArg}, one{1, mapped(mb+0x30000, 4096, 6, 1, 1<<48-4096), mb + 0x30000, "", 0}, one{1, load(mb+0x30000, 1), 0, "\x00", 0},
		one{1, mapped(mb+0x10000, 1, 6, 2), mb + 0x10000, "", 0}, one{1, load(mb+0x10000, 1), 0, "\x00", 0}, one{1, load(mb+0x11000, 1), 0, pages(whole[4096]), 0},
		one{1, store(mb+0x11000, "X"), 0, "", 0}, one{1, load(mb+0x11000, 1), 0, "X", 0}, one{1, read(0, 1), 0, pages(whole[0]), 0}, one{1, mapped(mb+0x31000, 1, 4, 1, 0x1000), mb + 0x31000, "", 0}, one{1, load(mb+0x31000, 1), 0, pages(whole[4096]), 0},
		one{1, unmap(mb+0x11000, 0), 0, "", api.ErrArg}, one{1, unmap(mb+0x11000, top), 0, "", api.ErrArg}, one{1, unmap(top-4095, 4096), 0, "", api.ErrArg}, one{1, unmap(mb+0x11001, 1), 0, "", api.ErrArg}, one{1, unmap(1<<47-4096, 4097), 0, "", api.ErrArg}, one{1, unmap(mb+0x11000, 1), 0, "", 0}, one{1, load(mb+0x11000, 1), 0, "", api.ErrFault}, one{1, load(mb+0x12000, 1), 0, pages(whole[8192]), 0}, one{1, unmap(mb+0x11000, 1), 0, "", 0},
		one{1, protect(mb+0x12000, 0, 4), 0, "", api.ErrArg}, one{1, protect(mb+0x12000, 1, 8), 0, "", api.ErrArg}, one{1, protect(mb+0x12000, top, 4), 0, "", api.ErrArg}, one{1, protect(top-4095, 4096, 4), 0, "", api.ErrArg}, one{1, protect(mb+0x12001, 1, 4), 0, "", api.ErrArg}, one{1, protect(mb+0x11000, 4097, 4), 0, "", api.ErrFault}, one{1, protect(mb+0x12000, 1, 1<<32|4), 0, "", api.ErrArg}, one{1, protect(mb+0x12000, 4097, 4), 0, "", 0}, one{1, store(mb+0x13fff, "a"), 0, "", api.ErrFault}, one{1, store(mb+0x14000, "a"), 0, "", 0}, one{1, protect(mb+0x12000, 1, 2), 0, "", 0}, one{1, load(mb+0x12000, 1), 0, "", api.ErrFault},
	)
	if b, e := k.Peek(1, mb+0x12000, 1); e != api.OK || b[0] != whole[8192] {
		t.Errorf("P26.4: Peek: %v, %d", b, e)
	}
}

func TestManyRegions(t *testing.T) {
	k := started(t, 100)
	n := uint64(64 - len(k.Procs()[0].Regions))
	for i := range n {
		does(t, k, one{1, mapped(mb+i*0x3000, 0x2000, 6), mb + i*0x3000, "", 0})
	}
	does(t, k, one{1, mapped(mb+n*0x3000, 1, 6), 0, "", api.ErrMany}, one{1, protect(mb, 1, 4), 0, "", api.ErrMany}, one{1, mapped(mb+0x2000, 1, 6), mb + 0x2000, "", 0}, one{1, unmap(mb+0x1000, 1), 0, "", 0}, one{1, unmap(mb+0x3000, 0x1000), 0, "", api.ErrMany}, one{1, unmap(mb+0x2000, 1), 0, "", 0})
}

func TestFiles(t *testing.T) {
	k := started(t, 200)
	whole := string(long(65536))
	does(t, k,
		one{1, open("/nowhere", 0), 0, "", api.ErrNoEnt}, one{1, open("/bin", 0), 0, "", api.ErrIsDir}, one{1, open("/", 0), 0, "", api.ErrIsDir}, one{1, open("/secret", 0), 0, "", api.ErrAccess}, one{1, open("/long/", 0), 0, "", api.ErrNotDir}, one{1, open("/long/x", 0), 0, "", api.ErrNotDir},
		one{1, open("/link", 1), 0, "", 0}, one{1, open("lib/../long", 0), 1, "", 0}, one{1, open("/own", 0), 2, "", 0}, one{1, open("/empty", 0), 3, "", 0},
		one{1, read(0, 0), 0, "", 0}, one{1, read(0, 10), 0, whole[:10], 0}, one{1, read(0, 4096), 0, whole[10:4106], 0}, one{1, read(1, 1), 0, whole[:1], 0}, one{1, read(3, 5), 0, "", 0}, one{1, read(2, 4096), 0, whole[:4096], 0}, one{1, read(2, 4096), 0, whole[4096:5000], 0}, one{1, read(2, 4096), 0, "", 0}, one{1, read(0, 1), 0, whole[4106:4107], 0},
		one{1, read(4, 1), 0, "", api.ErrFd}, one{1, read(16, 1), 0, "", api.ErrFd}, one{1, read(top, 1), 0, "", api.ErrFd}, one{1, read(1<<32, 1), 0, "", api.ErrFd}, one{1, closed(4), 0, "", api.ErrFd}, one{1, closed(16), 0, "", api.ErrFd}, one{1, closed(top), 0, "", api.ErrFd}, one{1, closed(1 << 32), 0, "", api.ErrFd},
		one{1, fork, 2, "", 0}, one{2, read(0, 1), 0, whole[4107:4108], 0}, one{1, read(0, 1), 0, whole[4107:4108], 0}, one{2, closed(1), 0, "", 0}, one{1, read(1, 1), 0, whole[1:2], 0}, one{2, read(1, 1), 0, "", api.ErrFd},
		one{2, exec("/bin/a"), 0, "", 0}, one{2, read(0, 1), 0, "", api.ErrFd}, one{2, read(2, 1), 0, "", 0}, one{2, open("/long", 0), 0, "", 0}, one{2, read(0, 1), 0, whole[:1], 0}, one{1, read(0, 1), 0, whole[4108:4109], 0},
		one{2, exec("/nowhere"), 0, "", api.ErrNoEnt}, one{2, read(0, 1), 0, whole[1:2], 0},
		one{2, exec("/bin/set"), 0, "", 0}, one{2, open("/secret", 0), 1, "", 0}, one{2, read(1, 99), 0, "secret", 0}, one{2, open("/own", 0), 0, "", api.ErrAccess},
	)
	for i := range 12 {
		does(t, k, one{1, open("/long", 0), uint64(i + 4), "", 0})
	}
	does(t, k, one{1, open("/long", 0), 0, "", api.ErrMany}, one{1, open("/nowhere", 0), 0, "", api.ErrNoEnt}, one{1, closed(7), 0, "", 0}, one{1, open("/long", 0), 7, "", 0})
	var all []byte
	for sizes := []uint64{1, 4095, 4096, 7, 4090, 100}; ; sizes = append(sizes[1:], sizes[0]) {
		r := k.Do(1, read(7, sizes[0]))
		if r.Err != api.OK || len(r.Bytes) == 0 {
			break
		}
		all = append(all, r.Bytes...)
	}
	if string(all) != whole {
		t.Errorf("P26.5: a file in pieces: %d bytes", len(all))
	}
	if slots := k.Procs()[0].Fds; slots[7] != (api.Slot{Used: true, Ino: 7, Pos: 65536}) || !slots[0].Cloexec {
		t.Errorf("P26.2: %v", slots)
	}
}

// TestReadWithFewFrames: the two pages of a read may follow one another in one frame.
func TestReadWithFewFrames(t *testing.T) {
	for n := 5; n < 40; n++ {
		k, e := kernel.New(config(n))
		if e != api.OK {
			continue
		}
		does(t, k, one{1, open("/long", 0), 0, "", 0}, one{1, mapped(0, 1<<20, 6), mb, "", 0})
		stored := uint64(0)
		for k.Do(1, store(mb+stored*4096, "x")).Err == api.OK {
			stored++
		}
		if stored < 2 {
			continue
		}
		whole := string(long(65536))
		for k.Cache().Pool().Free() > 0 {
			k.Cache().Take()
		}
		before := k.Procs()
		if r := k.Do(1, read(0, 4096)); r.Err != api.ErrNoMem || len(r.Bytes) != 0 || !reflect.DeepEqual(before, k.Procs()) {
			t.Fatalf("P26.2: without a frame: %d", r.Err)
		}
		does(t, k, one{1, read(0, 0), 0, "", 0}, one{1, unmap(mb, 4096), 0, "", 0}, one{1, read(0, 10), 0, whole[:10], 0}, one{1, read(0, 4096), 0, whole[10:4106], 0}, one{1, read(0, 4096), 0, whole[4106:8202], 0})
		return
	}
	t.Error("no size of a pool would do")
}

func TestProcesses(t *testing.T) {
	k := started(t, 400)
	code := func(b byte) string { return string([]byte{b, 0, 0, 0, 0, 0, 0, 0}) }
	does(t, k,
		one{1, wait, 0, "", api.ErrChild}, one{1, fork, 2, "", 0}, one{1, wait, 0, "", api.ErrAgain}, one{2, fork, 3, "", 0}, one{3, exit(9), 0, "", 0}, one{3, load(0, 1), 0, "", api.ErrPid}, one{3, exit(1), 0, "", api.ErrPid}, one{2, exit(top), 0, "", 0}, one{1, wait, 2, strings.Repeat("\xff", 8), 0}, one{1, wait, 3, code(9), 0}, one{1, wait, 0, "", api.ErrChild},
	)
	for i := 2; i <= 16; i++ {
		does(t, k, one{1, fork, uint64(i), "", 0})
	}
	does(t, k, one{1, fork, 0, "", api.ErrMany}, one{16, exit(1 << 40), 0, "", 0}, one{1, fork, 0, "", api.ErrMany}, one{1, wait, 16, "\x00\x00\x00\x00\x00\x01\x00\x00", 0}, one{2, fork, 16, "", 0})
	if k.Space(16) == nil || k.Space(1) == k.Space(16) || k.Space(17) != nil || k.Space(-1) != nil {
		t.Error("P26.4: Space")
	}
	does(t, k, one{16, exit(0), 0, "", 0})
	if k.Space(16) != nil {
		t.Error("P26.4: Space of one that has ended")
	}
	if b, e := k.Peek(16, 0, 0); len(b) != 0 || e != api.ErrPid {
		t.Errorf("P26.4: Peek of one that has ended: %d", e)
	}
}

func TestRunAndNil(t *testing.T) {
	steps := []api.Step{{Pid: 1, Call: mapped(0, 1, 6)}, {Pid: 1, Call: store(mb, "ab")}, {Pid: 1, Call: fork}, {Pid: 9, Call: fork}, {Pid: 2, Call: load(mb, 2)}, {Pid: 1, Call: api.Call{}}}
	whole := started(t, 100).Run(steps)
	want := []api.Result{{Value: mb}, {}, {Value: 2}, {Err: api.ErrPid}, {Bytes: []byte("ab")}, {Err: api.ErrCall}}
	for i, r := range whole {
		if r.Err != want[i].Err || r.Value != want[i].Value || !bytes.Equal(r.Bytes, want[i].Bytes) {
			t.Errorf("P26.3: %d: %+v", i, r)
		}
	}
	for cut := range steps {
		k := started(t, 100)
		if got := append(k.Run(steps[:cut]), k.Run(steps[cut:])...); !reflect.DeepEqual(got, whole) {
			t.Errorf("P26.5: cut at %d: %v", cut, got)
		}
	}
	var k *kernel.Kernel
	if got := k.Run(steps[:2]); !slices.EqualFunc(got, []api.Result{{Err: api.ErrNil}, {Err: api.ErrNil}}, func(a, b api.Result) bool { return reflect.DeepEqual(a, b) }) {
		t.Errorf("P26.3: of no kernel: %v", got)
	}
	does(t, k, one{9, api.Call{Kind: 99}, 0, "", api.ErrNil})
	if b, e := k.Peek(9, top, -1); len(b) != 0 || e != api.ErrNil || len(k.Procs()) != 0 || k.Cache() != nil || k.Space(1) != nil || len(k.Run(nil)) != 0 {
		t.Error("P26.4: of no kernel")
	}
	k = started(t, 100)
	if b, e := k.Peek(1, 0x420000, 4); string(b) != "data" || e != api.OK {
		t.Errorf("P26.4: Peek: %q, %d", b, e)
	}
	for e, x := range map[api.Errno][2]int{api.ErrPid: {2, 1}, api.ErrArg: {1, -1}, api.ErrFault: {1, 1}} {
		if b, err := k.Peek(x[0], 0, x[1]); len(b) != 0 || err != e {
			t.Errorf("P26.4: Peek: %d, want %d", err, e)
		}
	}
	b := []byte("ab")
	k.Do(1, api.Call{Kind: api.CallStore, A: 0x420000, Bytes: b})
	b[0] = 'x'
	does(t, k, one{1, load(0x420000, 2), 0, "ab", 0})
}
