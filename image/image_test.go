package image_test

import (
	"bytes"
	"encoding/binary"
	"math/rand"
	"reflect"
	"slices"
	"strings"
	"testing"

	"hostel/api"
	"hostel/elf"
	"hostel/image"
	"hostel/maker"
	"hostel/stack"
	"hostel/vfs"
)

const (
	top       = 1<<64 - 1
	entry     = maker.ExecBase + maker.TextAt
	stackFrom = api.StackTop - 4*4096
)

func made(t *testing.T, x api.Spec) []byte {
	t.Helper()
	b, e := maker.Make(x)
	if e != api.OK {
		t.Fatalf("Make of %+v: %d", x, e)
	}
	return b
}

func file(path string, mode uint16, uid uint32, data []byte) api.Entry {
	return api.Entry{Path: path, Kind: api.NodeFile, Mode: mode, Uid: uid, Data: data}
}

func dir(path string) api.Entry { return api.Entry{Path: path, Kind: api.NodeDir, Mode: 0o755} }

func files(t *testing.T, l ...api.Entry) *vfs.FS {
	t.Helper()
	f, e, at := vfs.New(append([]api.Entry{dir("/bin"), dir("/lib"), dir("/x")}, l...)) // 1 to 3
	if e != api.OK {
		t.Fatal(e, at)
	}
	return f
}

func user(euid uint32) api.Creds {
	return api.Creds{Uid: 9, Euid: euid, Suid: 8, Gid: 4, Groups: []uint32{2, 1}}
}

// simple is a program with data and noughts behind them.
func simple() api.Spec {
	return api.Spec{Type: 2, Entry: entry, Text: []byte{0xc3}, Data: []byte("data"), More: 5000}
}

// world are the files of most tests: 4 /bin/a, 5 /s, 6 /bin/set, 7 /text.
func world(t *testing.T) *vfs.FS {
	a := made(t, simple())
	return files(t, file("/bin/a", 0o755, 5, a), file("/s", 0o755, 5, []byte("#!/bin/a x")), file("/bin/set", 0o4755, 5, a), file("/text", 0o755, 5, []byte("text")))
}

func piece(from, to uint64, prot uint8, ino int, off uint64) api.Piece {
	return api.Piece{From: from, To: to, Prot: prot, Ino: ino, Off: off}
}

func told(t *testing.T, p api.Plan) (argv, env []string, aux []api.Aux) {
	t.Helper()
	last := p.Writes[len(p.Writes)-1]
	argv, env, aux, e := stack.Read(last.Bytes, last.Addr)
	if e != api.OK || last.Addr != p.Sp {
		t.Fatalf("P22.1: the stack: %d", e)
	}
	return argv, env, aux
}

func TestSimple(t *testing.T) {
	p, e := image.Make(world(t), user(7), "/bin/a", []string{"a", "b"}, []string{"X=1"})
	if e != api.OK {
		t.Fatalf("P22.1: %d", e)
	}
	pieces := []api.Piece{piece(0x400000, 0x401000, 4, 4, 0), piece(0x410000, 0x411000, 5, 4, 4096), piece(0x420000, 0x421000, 6, 4, 8192), piece(0x421000, 0x422000, 6, -1, 0), piece(stackFrom, api.StackTop, 6, -1, 0)}
	if !slices.Equal(p.Pieces, pieces) {
		t.Errorf("P22.1: the pieces %+v", p.Pieces)
	}
	if len(p.Writes) != 2 || p.Writes[0].Addr != 0x420004 || !bytes.Equal(p.Writes[0].Bytes, make([]byte, 4092)) {
		t.Errorf("P22.1: the writes %+v", p.Writes)
	}
	argv, env, aux := told(t, p)
	want := []api.Aux{{Key: 3, Value: 0x400040}, {Key: 4, Value: 56}, {Key: 5, Value: 4}, {Key: 6, Value: 4096}, {Key: 7}, {Key: 9, Value: entry}, {Key: 11, Value: 9}, {Key: 12, Value: 7}, {Key: 13, Value: 4}, {Key: 23}}
	if !slices.Equal(argv, []string{"a", "b"}) || !slices.Equal(env, []string{"X=1"}) || !slices.Equal(aux[:len(aux)-1], want) || aux[len(aux)-1].Key != api.AuxExecfn {
		t.Errorf("P22.1: the stack tells %q, %q, %v", argv, env, aux)
	}
	creds := user(7)
	creds.Suid = 7
	if p.Entry != entry || p.Secure || !reflect.DeepEqual(p.Creds, creds) || !slices.Equal(p.Env, []string{"X=1"}) {
		t.Errorf("P22.1: %#x, %v, %v, %q", p.Entry, p.Secure, p.Creds, p.Env)
	}
}

// TestWithoutPhdr: where no load has the program headers the vector does not tell them.
func TestWithoutPhdr(t *testing.T) {
	b := made(t, simple())
	rows := slices.Clone(b[64+56 : 64+56*4])
	at := len(b)
	b = append(b, rows...)
	binary.LittleEndian.PutUint64(b[32:], uint64(at))
	b[56] = 3
	p, e := image.Make(files(t, file("/bin/a", 0o755, 5, b)), user(7), "/bin/a", nil, nil)
	if e != api.OK {
		t.Fatalf("P22.1: %d", e)
	}
	if _, _, aux := told(t, p); len(aux) != 10 || aux[0] != (api.Aux{Key: 4, Value: 56}) || aux[1] != (api.Aux{Key: 5, Value: 3}) {
		t.Errorf("P22.1: %v", aux)
	}
}

func execfn(p api.Plan, aux []api.Aux) string {
	last := p.Writes[len(p.Writes)-1]
	rest := last.Bytes[aux[len(aux)-1].Value-p.Sp:]
	return string(rest[:bytes.IndexByte(rest, 0)])
}

func TestScriptsAndLending(t *testing.T) {
	f := world(t)
	p, e := image.Make(f, user(7), "/s", []string{"s", "b"}, []string{"X=1"})
	argv, _, aux := told(t, p)
	if e != api.OK || !slices.Equal(argv, []string{"/bin/a", "x", "/s", "b"}) || execfn(p, aux) != "/bin/a" {
		t.Errorf("P22.1: a script: %q, %q, %d", argv, execfn(p, aux), e)
	}
	unsafe := []string{"LD_PRELOAD=q", "X=1", "LD_LIBRARY_PATH=/x", "TMPDIR=", "LD_PRELOAD"}
	p, e = image.Make(f, user(7), "/bin/set", nil, unsafe)
	argv, env, aux := told(t, p)
	safe := []string{"X=1", "LD_PRELOAD"}
	if e != api.OK || p.Creds.Euid != 5 || p.Creds.Suid != 5 || p.Creds.Uid != 9 || !p.Secure || !slices.Equal(p.Env, safe) || !slices.Equal(env, safe) || len(argv) != 0 {
		t.Errorf("P22.1: a program that lends: %v, %v, %q, %q, %d", p.Creds, p.Secure, p.Env, env, e)
	}
	if aux[7] != (api.Aux{Key: 12, Value: 5}) || aux[9] != (api.Aux{Key: 23, Value: 1}) {
		t.Errorf("P22.1: the vector of a secure one: %v", aux)
	}
	p, e = image.Make(f, user(5), "/bin/set", nil, unsafe)
	if _, env, _ := told(t, p); e != api.OK || p.Secure || !slices.Equal(p.Env, unsafe) || !slices.Equal(env, unsafe) {
		t.Errorf("P22.1: who is the owner already: %v, %q, %d", p.Secure, p.Env, e)
	}
	p.Env[0], p.Creds.Groups[0] = "turned", 77
	if unsafe[0] != "LD_PRELOAD=q" {
		t.Error("R3: the environment is shared")
	}
}

func le(size int, x uint64) []byte { return binary.LittleEndian.AppendUint64(nil, x)[:size] }

// linked is a program that needs liba and wants an interpreter, with relocations of all kinds.
func linked() api.Spec {
	return api.Spec{Type: 2, Entry: entry, Interp: "/lib/ld", Text: []byte{0xc3}, Data: make([]byte, 64), Dynamic: true, Dyn: api.Dynamic{
		Needed: []string{"liba"},
		Syms:   []api.Sym{{Name: "f", Bind: 1}, {Name: "own", Value: 0x420001, Bind: 1, Def: true}, {Name: "weak", Bind: 2}},
		Relas:  []api.Rela{{Off: 0x420000, Type: 1, Sym: 1, Add: 3}, {Off: 0x420008, Type: 2, Sym: 2, Add: -1}, {Off: 0x420010, Type: 6, Sym: 2}, {Off: 0x420018, Type: 7, Sym: 3}, {Off: 0x420020, Type: 8, Add: 9}},
	}}
}

// liba defines f.
func liba() api.Spec {
	return api.Spec{Type: 3, Text: []byte{0xc3}, Data: make([]byte, 16), Dynamic: true, Dyn: api.Dynamic{
		Syms:  []api.Sym{{Name: "f", Value: 0x10000, Bind: 1, Def: true}, {Name: "own", Value: 5, Bind: 1, Def: true}},
		Relas: []api.Rela{{Off: 0x20000, Type: 1, Sym: 2}, {Off: 0x20008, Type: 8, Add: 4}},
	}}
}

// ld is an interpreter with a symbol of its own.
func ld() api.Spec {
	return api.Spec{Type: 3, Entry: 0x10002, Text: []byte("code"), Data: make([]byte, 8), Dynamic: true, Dyn: api.Dynamic{
		Syms:  []api.Sym{{Name: "own", Value: 0x10, Bind: 1, Def: true}},
		Relas: []api.Rela{{Off: 0x20000, Type: 1, Sym: 1}},
	}}
}

func TestLinked(t *testing.T) {
	f := files(t, file("/bin/d", 0o755, 0, made(t, linked())), file("/lib/liba", 0o644, 0, made(t, liba())), file("/lib/ld", 0o711, 0, made(t, ld())))
	p, e := image.Make(f, user(7), "/bin/d", []string{"d"}, nil)
	if e != api.OK {
		t.Fatalf("P22.1: %d", e)
	}
	const lib, ip = api.LibBase, api.InterpBase
	pieces := []api.Piece{
		piece(0x400000, 0x401000, 4, 4, 0), piece(0x410000, 0x411000, 5, 4, 4096), piece(0x420000, 0x421000, 6, 4, 8192),
		piece(lib, lib+0x1000, 4, 5, 0), piece(lib+0x10000, lib+0x11000, 5, 5, 4096), piece(lib+0x20000, lib+0x21000, 6, 5, 8192),
		piece(ip, ip+0x1000, 4, 6, 0), piece(ip+0x10000, ip+0x11000, 5, 6, 4096), piece(ip+0x20000, ip+0x21000, 6, 6, 8192),
		piece(stackFrom, api.StackTop, 6, -1, 0),
	}
	if !slices.Equal(p.Pieces, pieces) {
		t.Errorf("P22.1: the pieces %+v", p.Pieces)
	}
	writes := []api.Write{
		{Addr: 0x420000, Bytes: le(8, lib+0x10003)}, {Addr: 0x420008, Bytes: le(4, 0x420001-1-0x420008+1<<32)}, {Addr: 0x420010, Bytes: le(8, 0x420001)}, {Addr: 0x420018, Bytes: le(8, 0)}, {Addr: 0x420020, Bytes: le(8, 9)},
		{Addr: lib + 0x20000, Bytes: le(8, 0x420001)}, {Addr: lib + 0x20008, Bytes: le(8, lib+4)},
		{Addr: ip + 0x20000, Bytes: le(8, ip+0x10)},
	}
	if !reflect.DeepEqual(p.Writes[:len(p.Writes)-1], writes) {
		t.Errorf("P22.1: the writes %x, want %x", p.Writes, writes)
	}
	_, _, aux := told(t, p)
	if aux[4] != (api.Aux{Key: 7, Value: ip}) || aux[5] != (api.Aux{Key: 9, Value: entry}) || p.Entry != ip+0x10002 {
		t.Errorf("P22.1: %v, %#x", aux, p.Entry)
	}
}

func TestADynMain(t *testing.T) {
	x := simple()
	x.Type, x.Entry = 3, maker.TextAt
	f := files(t, file("/bin/p", 0o755, 0, made(t, x)))
	p, e := image.Make(f, user(7), "/bin/p", nil, nil)
	if e != api.OK {
		t.Fatalf("P22.1: %d", e)
	}
	_, _, aux := told(t, p)
	if aux[0] != (api.Aux{Key: 3, Value: api.MainBase + 64}) || aux[5] != (api.Aux{Key: 9, Value: api.MainBase + 0x10000}) || p.Entry != api.MainBase+0x10000 || p.Pieces[0].From != api.MainBase {
		t.Errorf("P22.1: %v, %#x", aux, p.Entry)
	}
}

// TestLibraryPath: the path of the new environment counts, and not for who is secure.
func TestLibraryPath(t *testing.T) {
	main := linked()
	main.Interp = ""
	d, a := made(t, main), made(t, liba())
	other := liba()
	other.Data = make([]byte, 5000)
	f := files(t, file("/bin/d", 0o755, 5, d), file("/bin/set", 0o4755, 5, d), file("/lib/liba", 0o644, 0, a), file("/x/liba", 0o644, 0, made(t, other)), file("/bin/own", 0o755, 0, d), file("/x/only", 0o600, 5, a))
	for _, x := range []struct {
		path string
		euid uint32
		env  []string
		ino  int
	}{{"/bin/d", 7, nil, 6}, {"/bin/d", 7, []string{"LD_LIBRARY_PATH=/x"}, 7}, {"/bin/d", 7, []string{"LD_LIBRARY_PATH=", "LD_LIBRARY_PATH=/x"}, 6}, {"/bin/set", 7, []string{"LD_LIBRARY_PATH=/x"}, 6}, {"/bin/set", 5, []string{"LD_LIBRARY_PATH=/x"}, 7}} {
		p, e := image.Make(f, user(x.euid), x.path, nil, x.env)
		if e != api.OK || p.Pieces[3].Ino != x.ino {
			t.Errorf("P22.1: %s of %d with %q: %d, %d", x.path, x.euid, x.env, p.Pieces[3].Ino, e)
		}
	}
	// The new credentials look for libraries: what the owner alone may read is found by who is lent to.
	main.Dyn.Needed = []string{"/x/only"}
	f = files(t, file("/bin/d", 0o755, 5, made(t, main)), file("/bin/set", 0o4755, 5, made(t, main)), file("/x/only", 0o600, 5, a))
	if _, e := image.Make(f, user(7), "/bin/d", nil, nil); e != api.ErrLibAcc {
		t.Errorf("P22.1: a library that may not be read: %d", e)
	}
	if _, e := image.Make(f, user(7), "/bin/set", nil, nil); e != api.OK {
		t.Errorf("P22.1: a library that the owner may read: %d", e)
	}
}

func fails(t *testing.T, name string, f *vfs.FS, c api.Creds, path string, argv, env []string, want api.Errno) {
	t.Helper()
	p, e := image.Make(f, c, path, argv, env)
	if e != want || e != api.OK && !reflect.DeepEqual(p, api.Plan{}) {
		t.Errorf("P22.1: %s: %d, want %d", name, e, want)
	}
}

func TestFirstSteps(t *testing.T) {
	f := world(t)
	many, bad := make([]string, 33), []string{"\x00"}
	big := user(7)
	big.Groups = make([]uint32, 9)
	fails(t, "no files", nil, big, "", many, many, api.ErrNil)
	fails(t, "9 groups", f, big, "/nowhere", many, many, api.ErrMany)
	fails(t, "33 arguments", f, user(7), "/nowhere", many, bad, api.ErrBig)
	fails(t, "an argument with a nought", f, user(7), "/nowhere", bad, many, api.ErrArg)
	fails(t, "33 variables", f, user(7), "/nowhere", nil, many, api.ErrBig)
	fails(t, "a variable with a nought", f, user(7), "/nowhere", nil, bad, api.ErrArg)
	fails(t, "nowhere", f, user(7), "/nowhere", nil, nil, api.ErrNoEnt)
	fails(t, "no path", f, user(7), "", nil, nil, api.ErrNoEnt)
	fails(t, "a directory", f, user(7), "/bin", nil, nil, api.ErrAccess)
	fails(t, "too many arguments for a script", f, user(7), "/s", make([]string, 31), nil, api.ErrBig)
	fails(t, "a text", f, user(7), "/text", nil, nil, api.ErrExec)
	x := api.Spec{Type: 3, Interp: "/nowhere"}
	odd := made(t, simple())
	odd[64+56+16] = 1 // the front's load has another rest than its place
	f = files(t, file("/bin/zero", 0o755, 0, made(t, x)), file("/bin/odd", 0o755, 0, odd))
	fails(t, "entry 0", f, user(7), "/bin/zero", nil, nil, api.ErrExec)
	fails(t, "an odd load", f, user(7), "/bin/odd", nil, nil, api.ErrForm)
}

func TestLibrariesSteps(t *testing.T) {
	main := linked()
	main.Interp = ""
	with := func(turn func(x *api.Spec), more ...api.Entry) *vfs.FS {
		x := main
		x.Dyn.Needed, x.Dyn.Relas = slices.Clone(x.Dyn.Needed), slices.Clone(x.Dyn.Relas)
		turn(&x)
		return files(t, append([]api.Entry{file("/bin/d", 0o755, 0, made(t, x))}, more...)...)
	}
	a := file("/lib/liba", 0o644, 0, made(t, liba()))
	none := liba()
	none.Dyn.Syms, none.Dyn.Relas = nil, nil
	wrong := liba()
	wrong.Dyn.Relas[0].Off = 0x10000 // in the text
	for _, x := range []struct {
		name string
		f    *vfs.FS
		e    api.Errno
	}{
		{"as it is", with(func(x *api.Spec) {}, a), api.OK}, {"no library", with(func(x *api.Spec) {}), api.ErrLibAcc}, {"a library that is none", with(func(x *api.Spec) {}, file("/lib/liba", 0o644, 0, []byte("text"))), api.ErrLibBad}, {"nobody's symbol", with(func(x *api.Spec) {}, file("/lib/liba", 0o644, 0, made(t, none))), api.ErrSym}, {"a relocation that may not be", with(func(x *api.Spec) { x.Dyn.Relas[1].Off = 0x410000 }, a), api.ErrRel}, {"a library's relocation that may not be", with(func(x *api.Spec) {}, file("/lib/liba", 0o644, 0, made(t, wrong))), api.ErrRel},
		{"no library, no interpreter", with(func(x *api.Spec) { x.Interp = "/text" }), api.ErrLibAcc}, {"no library, a bad interpreter", with(func(x *api.Spec) { x.Interp = "/bin/d" }), api.ErrLibAcc}, {"nobody's symbol, a bad interpreter", with(func(x *api.Spec) { x.Interp = "/bin/d" }, file("/lib/liba", 0o644, 0, made(t, none))), api.ErrLibBad},
	} {
		fails(t, x.name, x.f, user(7), "/bin/d", nil, nil, x.e)
	}
	// Bases: a program where libraries are to lie, and where the stack is.
	for at, e := range map[uint64]api.Errno{api.LibBase: api.ErrExec, stackFrom: api.ErrExec, 0x600000: api.OK} {
		b := made(t, main)
		move(b, at)
		f := files(t, file("/bin/d", 0o755, 0, b), a)
		fails(t, "a load more", f, user(7), "/bin/d", nil, nil, e)
	}
	b := made(t, linked())
	move(b, stackFrom)
	fails(t, "in the stack's area, without an interpreter", files(t, file("/bin/d", 0o755, 0, b), a), user(7), "/bin/d", nil, nil, api.ErrExec)
}

// move gives the program headers of a file a load of a page of noughts at an address: in place of the one of its own headers.
func move(b []byte, at uint64) {
	n := int(b[56])
	rows := b[64 : 64+56*n]
	last := append([]byte(nil), rows[56*(n-1):]...)
	copy(rows[0:], rows[56:]) // without SegPhdr
	row := make([]byte, 56)
	binary.LittleEndian.PutUint32(row, 1)
	binary.LittleEndian.PutUint32(row[4:], 4)
	binary.LittleEndian.PutUint64(row[16:], at)
	binary.LittleEndian.PutUint64(row[40:], 4096)
	binary.LittleEndian.PutUint64(row[48:], 4096)
	copy(rows[56*(n-2):], row)
	copy(rows[56*(n-1):], last)
}

func TestInterpreters(t *testing.T) {
	main := linked()
	main.Dyn = api.Dynamic{}
	with := func(x api.Entry) *vfs.FS {
		return files(t, file("/bin/d", 0o755, 0, made(t, main)), file("/bin/set", 0o4755, 5, made(t, main)), x)
	}
	of := func(turn func(x *api.Spec)) *vfs.FS {
		x := ld()
		turn(&x)
		return with(file("/lib/ld", 0o755, 0, made(t, x)))
	}
	bad := made(t, ld())
	h, _ := elf.Parse(bad)
	bad[h.Segs[len(h.Segs)-1].Off] = 2 // PLTRELSZ alone
	path := made(t, main)
	i := bytes.Index(path, []byte("/lib/ld\x00"))
	path[i+7] = 'x' // not ended
	for _, x := range []struct {
		name string
		f    *vfs.FS
		e    api.Errno
	}{
		{"as it is", of(func(x *api.Spec) {}), api.OK}, {"none", with(file("/text", 0o755, 0, nil)), api.ErrLibAcc}, {"a directory", with(dir("/lib/ld")), api.ErrLibAcc}, {"one that may not be executed", with(file("/lib/ld", 0o644, 0, made(t, ld()))), api.ErrLibAcc}, {"one that may not be read", with(file("/lib/ld", 0o711, 0, made(t, ld()))), api.OK}, {"a text", with(file("/lib/ld", 0o755, 0, []byte("text"))), api.ErrLibBad}, {"a bad dynamic section", with(file("/lib/ld", 0o755, 0, bad)), api.ErrLibBad},
		{"an exec", of(func(x *api.Spec) { x.Type, x.Entry, x.Dyn = 2, entry, api.Dynamic{} }), api.ErrLibBad}, {"without entry", of(func(x *api.Spec) { x.Entry = 0 }), api.ErrLibBad}, {"with an interpreter", of(func(x *api.Spec) { x.Interp = "/lib/ld" }), api.ErrLibBad}, {"that needs something", of(func(x *api.Spec) { x.Dyn.Needed = []string{"ld"} }), api.ErrLibBad}, {"with a name and a run", of(func(x *api.Spec) { x.Dyn.Soname, x.Dyn.Run = "a", "b" }), api.OK}, {"without a dynamic section", of(func(x *api.Spec) { x.Dynamic, x.Dyn = false, api.Dynamic{} }), api.OK},
		{"nobody's symbol", of(func(x *api.Spec) { x.Dyn.Syms[0].Def = false }), api.ErrSym}, {"a relocation that may not be", of(func(x *api.Spec) { x.Dyn.Relas[0].Type = 99 }), api.ErrRel}, {"by a link", files(t, file("/bin/d", 0o755, 0, made(t, main)), file("/bin/ld", 0o755, 0, made(t, ld())), api.Entry{Path: "/lib/ld", Kind: 3, To: "../bin/ld"}), api.OK}, {"a path that does not end", files(t, file("/bin/d", 0o755, 0, path)), api.ErrForm},
	} {
		fails(t, x.name, x.f, user(7), "/bin/d", nil, nil, x.e)
	}
	own := with(file("/lib/ld", 0o700, 5, made(t, ld())))
	fails(t, "that the owner may execute", own, user(7), "/bin/d", nil, nil, api.ErrLibAcc)
	fails(t, "that the owner may execute, lent", own, user(7), "/bin/set", nil, nil, api.OK)
	relative := main
	relative.Interp = "lib/ld"
	f := files(t, file("/bin/d", 0o755, 0, made(t, relative)), file("/lib/ld", 0o755, 0, made(t, ld())))
	fails(t, "from the root", f, user(7), "/bin/d", nil, nil, api.OK)
	main.Entry = entry
	b := made(t, main)
	move(b, api.InterpBase)
	f = files(t, file("/bin/d", 0o755, 0, b), file("/lib/ld", 0o755, 0, made(t, ld())))
	fails(t, "where a program lies", f, user(7), "/bin/d", nil, nil, api.ErrExec)
}

func TestLastSteps(t *testing.T) {
	f := world(t)
	long := slices.Repeat([]string{strings.Repeat("a", 256)}, 32)
	fails(t, "too much on the stack", f, user(7), "/bin/a", long, long, api.ErrBig)
	fails(t, "much on the stack", f, user(7), "/bin/a", long, long[:20], api.OK)
	// Regions: eight objects of nine pieces and more are more than a space can have.
	seg := func(at uint64) []byte {
		row := make([]byte, 56)
		binary.LittleEndian.PutUint32(row, 1)
		binary.LittleEndian.PutUint32(row[4:], uint32(4|at/0x2000%2))
		binary.LittleEndian.PutUint64(row[16:], at)
		binary.LittleEndian.PutUint64(row[32:], 1)
		binary.LittleEndian.PutUint64(row[40:], 4097)
		binary.LittleEndian.PutUint64(row[48:], 4096)
		return row
	}
	needs := func(name string, loads int) []byte {
		b := made(t, api.Spec{Type: 3, Dynamic: true, Data: make([]byte, 100), Dyn: api.Dynamic{Needed: []string{name}}})
		h, _ := elf.Parse(b)
		dyn := append([]byte(nil), b[64+56*3:64+56*4]...)
		rows := append([]byte(nil), b[64+56:64+56*2]...) // the front
		room := binary.LittleEndian.AppendUint64(nil, 8192)
		b = append(b, make([]byte, 8192-len(b)+56*8)...)
		for i := range loads {
			rows = append(rows, seg(uint64(0x30000+i*0x2000))...)
		}
		rows = append(rows, dyn...)
		copy(b[8192:], rows)
		copy(b[32:], room)
		b[56] = byte(len(rows) / 56)
		if _, e := elf.Parse(b); e != api.OK || len(h.Segs) != 4 {
			t.Fatalf("an object of many loads: %d", e)
		}
		return b
	}
	many := func(loads int) *vfs.FS {
		var l []api.Entry
		for i, name := range []string{"1", "2", "3", "4", "5", "6", "7", "1"} {
			b := needs(name, loads)
			if i == 0 {
				binary.LittleEndian.PutUint64(b[24:], 0x32000) // its flags are 5: it may be executed
			}
			l = append(l, file("/lib/"+string(rune('0'+i)), 0o755, 0, b))
		}
		return files(t, l...)
	}
	fails(t, "eight objects of 5 pieces", many(2), user(7), "/lib/0", nil, nil, api.OK)
	fails(t, "eight objects of 13 pieces", many(6), user(7), "/lib/0", nil, nil, api.ErrMany)
	fails(t, "eight objects of 13 pieces, too much on the stack", many(6), user(7), "/lib/0", long, long, api.ErrBig)
}

func TestBytes(t *testing.T) {
	f := files(t, file("/f", 0o644, 0, []byte("0123456789")))
	p := api.Plan{
		Pieces: []api.Piece{piece(0x1000, 0x3000, 6, 4, 2), piece(0x3000, 0x4000, 6, -1, 0), piece(0x1008, 0x100a, 0, -1, 0), piece(0x1009, 0x100c, 0, 4, 0), piece(0x6000, 0x5000, 0, 4, 0), piece(0x9000, 0x9004, 0, 1, 0), piece(0x9004, 0x9008, 0, 99, 0), piece(0x9008, 0x900c, 0, -7, 0), piece(0xa000, 0xa010, 0, 4, top), piece(0xb000, 0xb010, 0, 4, 1<<63), piece(0xc000, 0xc010, 0, 4, top-3), piece(0xd000, 0xd010, 0, 4, 0), piece(0xd002, 0xd005, 0, -1, 0), piece(1<<47-4, 1<<47+4, 0, 4, 0), piece(1<<46, 1<<46+1<<20, 0, 4, 0)},
		Writes: []api.Write{{Addr: 0x1001, Bytes: []byte("ab")}, {Addr: 0x1002, Bytes: []byte("X")}, {Addr: 0x2fff, Bytes: []byte("YZ")}, {Addr: 0x7000, Bytes: []byte("nothing")}, {Addr: 0xfff, Bytes: []byte("uV")}, {Addr: top, Bytes: []byte("wrap")}, {Addr: 0x9001}},
	}
	for _, x := range []struct {
		addr uint64
		n    int
		want string
		e    api.Errno
	}{
		{0x1000, 13, "VaX56789\x00012\x00", 0}, {0x1001, 3, "aX5", 0}, {0x1002, 1, "X", 0}, {0x1004, 1, "6", 0}, {0x2ffe, 4, "\x00YZ\x00", 0}, {0xfff, 1, "", api.ErrFault}, {0x3fff, 2, "", api.ErrFault}, {0x3fff, 1, "\x00", 0}, {0x7000, 1, "", api.ErrFault}, {0x5000, 1, "", api.ErrFault}, {0x5800, 1, "", api.ErrFault},
		{0x9000, 12, strings.Repeat("\x00", 12), 0}, {0xa000, 16, strings.Repeat("\x00", 16), 0}, {0xa001, 3, "\x00\x00\x00", 0}, {0xc006, 3, "\x00\x00\x00", 0}, {0xd000, 6, "01\x00\x00\x005", 0}, {0xb000, 16, strings.Repeat("\x00", 16), 0}, {0xc000, 16, strings.Repeat("\x00", 16), 0}, {1<<46 + 1<<19, 2, "\x00\x00", 0}, {1<<46 + 9, 2, "9\x00", 0}, {1<<46 + 5, 65536, "56789" + strings.Repeat("\x00", 65531), 0},
		{1<<47 - 4, 4, "0123", 0}, {1<<47 - 4, 5, "", api.ErrFault}, {1 << 47, 0, "", 0}, {1 << 47, 1, "", api.ErrFault}, {1<<47 + 1, 0, "", api.ErrFault}, {top, 0, "", api.ErrFault}, {top, 2, "", api.ErrFault}, {0x7000, 0, "", 0}, {0, 1, "", api.ErrFault},
		{0x1000, -1, "", api.ErrArg}, {0x1000, 65537, "", api.ErrArg}, {top, 65537, "", api.ErrArg}, {0x1000, -1 << 63, "", api.ErrArg}, {0x1000, 65536, "", api.ErrFault},
	} {
		if got, e := image.Bytes(f, p, x.addr, x.n); string(got) != x.want || e != x.e {
			t.Errorf("P22.2: %d at %#x: %.60q, %d, want %.60q", x.n, x.addr, got, e, x.want)
		}
	}
	if got, e := image.Bytes(nil, p, top, -1); len(got) != 0 || e != api.ErrNil {
		t.Errorf("P22.2: without files: %d", e)
	}
}

// TestWhatFollows: each byte of each load, but for the patches, is the file's, or a nought (P22.3).
func TestWhatFollows(t *testing.T) {
	r := rand.New(rand.NewSource(22))
	for range 40 {
		spec := func(kind uint16, needed ...string) api.Spec {
			x := api.Spec{Type: kind, Text: make([]byte, 1+r.Intn(6000)), Data: make([]byte, 64+r.Intn(6000)), More: uint64(r.Intn(2) * r.Intn(9000)), Dynamic: true, Dyn: api.Dynamic{Needed: needed, Syms: []api.Sym{{Name: "a", Value: r.Uint64(), Bind: 1, Def: r.Intn(2) == 0}, {Name: "a", Bind: 2}}}}
			r.Read(x.Text)
			r.Read(x.Data)
			base := uint64(3-kind) * maker.ExecBase
			x.Entry = base + maker.TextAt
			for i := range r.Intn(8) {
				x.Dyn.Relas = append(x.Dyn.Relas, api.Rela{Off: base + maker.DataAt + uint64(8*i), Type: []uint32{1, 6, 7, 8}[r.Intn(4)], Sym: 2 * r.Intn(2), Add: int64(r.Uint64())})
			}
			return x
		}
		main := spec(uint16(2+r.Intn(2)), "a", "b")
		specs := []api.Spec{main, spec(3, "b"), spec(3)}
		if r.Intn(2) == 0 {
			specs[0].Interp = "/lib/ld"
			specs = append(specs, spec(3))
		}
		l := []api.Entry{file("/bin/m", []uint16{0o755, 0o4755}[r.Intn(2)], 5, made(t, specs[0])), file("/lib/a", 0o755, 0, made(t, specs[1])), file("/lib/b", 0o755, 0, made(t, specs[2]))}
		if len(specs) == 4 {
			l = append(l, file("/lib/ld", 0o755, 0, made(t, specs[3])))
		}
		f := files(t, l...)
		env := []string{"X=1", "LD_LIBRARY_PATH=/lib"}
		c := user(uint32(5 + r.Intn(2)))
		p, e := image.Make(f, c, "/bin/m", []string{"m"}, env)
		if e != api.OK {
			t.Fatalf("P22.1: %d", e)
		}
		if p.Secure != (p.Creds.Euid != c.Euid) || p.Secure != (c.Euid == 6 && l[0].Mode == 0o4755) || len(p.Env) != map[bool]int{true: 1, false: 2}[p.Secure] {
			t.Fatalf("P22.3: %v, %q", p.Secure, p.Env)
		}
		bases := []uint64{uint64(main.Type-2) * api.MainBase, api.LibBase, 0, api.InterpBase}
		for i, x := range l {
			h, _ := elf.Parse(x.Data)
			if i == 2 {
				before, _ := elf.Parse(l[1].Data)
				_, high := elf.Span(before)
				bases[2] = api.LibBase + high + 4096
			}
			for _, s := range elf.Loads(h) {
				got, e := image.Bytes(f, p, bases[i]+s.Addr, int(s.Memsz))
				want := append(slices.Clone(x.Data[s.Off:s.Off+s.Filesz]), make([]byte, s.Memsz-s.Filesz)...)
				if s.Flags == 6 { // the patches are the first words of the data
					n := 8 * len(specs[i].Dyn.Relas)
					if len(got) >= n {
						got, want = got[n:], want[n:]
					}
				}
				if e != api.OK || !bytes.Equal(got, want) {
					t.Fatalf("P22.3: the load at %#x of the file %s: %d", s.Addr, x.Path, e)
				}
			}
		}
	}
}
