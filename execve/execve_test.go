package execve_test

import (
	"bytes"
	"reflect"
	"slices"
	"testing"

	"hostel/api"
	"hostel/cache"
	"hostel/execve"
	"hostel/fds"
	"hostel/frames"
	"hostel/image"
	"hostel/maker"
	"hostel/space"
	"hostel/vfs"
)

func made(t *testing.T, x api.Spec) []byte {
	t.Helper()
	b, e := maker.Make(x)
	if e != api.OK {
		t.Fatal(e)
	}
	return b
}

// over is a cache over n frames and the files 2 /bin/a, 3 /bin/set (that lends 5), 4 /bin/d (which needs 5 /bin/lib), 6 /s.
func over(t *testing.T, n int) *cache.Cache {
	t.Helper()
	a := made(t, api.Spec{Type: 2, Entry: 0x410000, Text: []byte{0xc3}, Data: bytes.Repeat([]byte("ab"), 3000), More: 5000})
	d := made(t, api.Spec{Type: 3, Entry: 0x10000, Text: []byte{0xc3}, Data: make([]byte, 9), Dynamic: true, Dyn: api.Dynamic{Needed: []string{"/bin/lib"}, Relas: []api.Rela{{Off: 0x20000, Type: 8, Add: 7}}}})
	lib := made(t, api.Spec{Type: 3, Text: []byte("lib"), Dynamic: true})
	f, e, at := vfs.New([]api.Entry{{Path: "/bin", Kind: 2, Mode: 0o755}, {Path: "/bin/a", Kind: 1, Mode: 0o755, Uid: 5, Data: a}, {Path: "/bin/set", Kind: 1, Mode: 0o4755, Uid: 5, Data: a}, {Path: "/bin/d", Kind: 1, Mode: 0o755, Uid: 5, Data: d}, {Path: "/bin/lib", Kind: 1, Mode: 0o755, Data: lib}, {Path: "/s", Kind: 1, Mode: 0o755, Data: []byte("#!/bin/a x")}})
	if e != api.OK {
		t.Fatal(e, at)
	}
	p, _ := frames.New(n)
	c, _ := cache.New(p, f)
	return c
}

func task(euid uint32) *execve.Task {
	x := &execve.Task{Creds: api.Creds{Uid: 1, Euid: euid, Suid: 2, Gid: 3, Groups: []uint32{4}}, Fds: fds.New(), Entry: 1, Sp: 2, Secure: true}
	x.Fds.Open(2, true)
	x.Fds.Open(2, false)
	x.Fds.Move(1, 77)
	return x
}

// sound holds each frame's count against what points to it.
func sound(t *testing.T, c *cache.Cache, l ...*space.Space) {
	t.Helper()
	want := map[int]int{}
	for _, s := range l {
		for _, put := range s.Table().All() {
			want[put.Leaf.Frame]++
		}
		for _, n := range s.Table().Nodes() {
			want[n]++
		}
	}
	for _, slot := range c.Slots() {
		want[slot.Frame]++
	}
	for f := range c.Pool().Size() {
		if c.Pool().Count(f) != want[f] {
			t.Fatalf("P23.3: the frame %d is counted %d times, want %d", f, c.Pool().Count(f), want[f])
		}
	}
}

// isPlan holds a space against a plan: all its addresses, and no other one (P23.3).
func isPlan(t *testing.T, c *cache.Cache, s *space.Space, p api.Plan) {
	t.Helper()
	pages := map[uint64]bool{}
	for _, x := range p.Pieces {
		for at := x.From; at < x.To; at += api.Page {
			got, e := s.Peek(at, api.Page)
			want, _ := image.Bytes(c.Files(), p, at, api.Page)
			if e != api.OK || !bytes.Equal(got, want) {
				t.Fatalf("P23.3: the page %#x: %d", at, e)
			}
			if _, e := s.Load(at, 1); (e == api.OK) != (x.Prot&api.CanRead != 0) {
				t.Fatalf("P23.3: reading the page %#x: %d", at, e)
			}
			pages[at] = true
		}
	}
	for _, r := range s.Regions() {
		for at := r.From; at < r.To; at += api.Page {
			if !pages[at] {
				t.Fatalf("P23.3: the page %#x is none of the plan's", at)
			}
		}
	}
}

func TestBuild(t *testing.T) {
	c := over(t, 60)
	p := api.Plan{
		Pieces: []api.Piece{{From: 0x1000, To: 0x4000, Prot: 4, Ino: 2, Off: 0x1000}, {From: 0x2000, To: 0x3000, Prot: 6, Ino: -1}, {From: 0x9000, To: 0xa000, Prot: 0, Ino: -1}},
		Writes: []api.Write{{Addr: 0x1ffe, Bytes: []byte("abcd")}, {Addr: 0x1fff, Bytes: []byte("X")}, {Addr: 0x9000, Bytes: []byte("hidden")}, {Addr: 0x9001}},
	}
	s, e := execve.Build(c, p)
	if e != api.OK {
		t.Fatalf("P23.1: %d", e)
	}
	isPlan(t, c, s, p)
	if got, _ := s.Peek(0x1ffe, 4); string(got) != "aXcd" {
		t.Errorf("P23.1: %q", got)
	}
	if want := []api.Region{{From: 0x1000, To: 0x2000, Prot: 4, Ino: 2, Off: 0x1000}, {From: 0x2000, To: 0x3000, Prot: 6, Ino: -1}, {From: 0x3000, To: 0x4000, Prot: 4, Ino: 2, Off: 0x3000}, {From: 0x9000, To: 0xa000, Ino: -1}}; !slices.Equal(s.Regions(), want) {
		t.Errorf("P23.1: %+v", s.Regions())
	}
	sound(t, c, s)
	s.Free()
	for name, x := range map[string]struct {
		p api.Plan
		e api.Errno
	}{
		"nothing":                 {api.Plan{}, api.OK},
		"an empty piece":          {api.Plan{Pieces: []api.Piece{{From: 0x1000, To: 0x1000, Ino: -1}}}, api.ErrArg},
		"a piece of a directory":  {api.Plan{Pieces: []api.Piece{{From: 0x1000, To: 0x2000, Ino: 1}}}, api.ErrArg},
		"a write where none is":   {api.Plan{Pieces: []api.Piece{{From: 0x1000, To: 0x2000, Ino: -1}}, Writes: []api.Write{{Addr: 0x1fff, Bytes: []byte("ab")}}}, api.ErrFault},
		"a write that is long":    {api.Plan{Pieces: []api.Piece{{From: 0x1000, To: 0x100000, Ino: -1}}, Writes: []api.Write{{Addr: 0x1000, Bytes: make([]byte, 65537)}}}, api.ErrArg},
		"a piece ahead of writes": {api.Plan{Pieces: []api.Piece{{}}, Writes: []api.Write{{Addr: 1, Bytes: []byte("a")}}}, api.ErrArg},
		"too much for the pool":   {api.Plan{Pieces: []api.Piece{{From: 0x100000, To: 0x200000, Ino: -1}}, Writes: []api.Write{{Addr: 0x100000, Bytes: make([]byte, 65536)}, {Addr: 0x110000, Bytes: make([]byte, 65536)}, {Addr: 0x120000, Bytes: make([]byte, 65536)}, {Addr: 0x130000, Bytes: make([]byte, 65536)}}}, api.ErrNoMem},
	} {
		s, e := execve.Build(c, x.p)
		if e != x.e || (s != nil) != (e == api.OK) {
			t.Errorf("P23.1: %s: %d", name, e)
		}
		if s != nil {
			s.Free()
		}
		c.Drop()
		if c.Pool().Free() != 60 {
			t.Errorf("P23.1: %s: %d frames are free", name, c.Pool().Free())
		}
	}
	if s, e := execve.Build(nil, p); s != nil || e != api.ErrNil {
		t.Errorf("P23.1: without a cache: %d", e)
	}
	full := over(t, 1)
	full.Take()
	if s, e := execve.Build(full, api.Plan{}); s != nil || e != api.ErrNoMem {
		t.Errorf("P23.1: without a frame: %d", e)
	}
}

func TestExec(t *testing.T) {
	for _, x := range []struct {
		path string
		euid uint32
	}{{"/bin/a", 7}, {"/bin/set", 7}, {"/bin/set", 5}, {"/bin/d", 7}, {"/s", 7}} {
		c := over(t, 90)
		y := task(x.euid)
		before := *y
		if e := execve.Exec(c, y, x.path, []string{"a", "b"}, []string{"X=1", "LD_DEBUG=1"}); e != api.OK {
			t.Fatalf("P23.2: %s: %d", x.path, e)
		}
		p, _ := image.Make(c.Files(), before.Creds, x.path, []string{"a", "b"}, []string{"X=1", "LD_DEBUG=1"})
		if y.Entry != p.Entry || y.Sp != p.Sp || y.Secure != p.Secure || !reflect.DeepEqual(y.Creds, p.Creds) || y.Fds != before.Fds {
			t.Errorf("P23.2: %s: %+v", x.path, y)
		}
		want := make([]api.Slot, 16)
		want[1] = api.Slot{Used: true, Ino: 2, Pos: 77}
		if got := y.Fds.List(); !slices.Equal(got, want) {
			t.Errorf("P23.2: %s: %v", x.path, got)
		}
		isPlan(t, c, y.Space, p)
		sound(t, c, y.Space)
		old := y.Space
		if e := execve.Exec(c, y, "/bin/a", nil, nil); e != api.OK || y.Space == old || old.Table() != nil {
			t.Errorf("P23.2: a second program: %d", e)
		}
		sound(t, c, y.Space)
	}
}

// as tells a task: all that a later call could tell of it.
func as(x *execve.Task) []any {
	told := []any{x.Creds, x.Fds.List(), x.Entry, x.Sp, x.Secure, x.Space.Regions()}
	for _, r := range x.Space.Regions() {
		if r.To-r.From <= 16*api.Page {
			b, e := x.Space.Peek(r.From, int(r.To-r.From))
			told = append(told, b, e)
		}
	}
	return told
}

func TestErrorsChangeNothing(t *testing.T) {
	c := over(t, 90)
	x := task(7)
	if e := execve.Exec(c, x, "/bin/a", nil, nil); e != api.OK {
		t.Fatal(e)
	}
	x.Fds.Open(2, true)
	old := x.Space
	want := as(x)
	for path, e := range map[string]api.Errno{"/nowhere": api.ErrNoEnt, "/bin": api.ErrAccess, "": api.ErrNoEnt, "/bin/a/": api.ErrNotDir} {
		if got := execve.Exec(c, x, path, nil, nil); got != e || x.Space != old || !reflect.DeepEqual(as(x), want) {
			t.Errorf("P23.2: %q: %d", path, got)
		}
		sound(t, c, x.Space)
	}
	if e := execve.Exec(c, x, "/bin/a", make([]string, 33), nil); e != api.ErrBig || !reflect.DeepEqual(as(x), want) {
		t.Errorf("P23.2: 33 arguments: %d", e)
	}
	for name, e := range map[string]api.Errno{"no cache": execve.Exec(nil, x, "/bin/a", nil, nil), "no task": execve.Exec(c, nil, "/bin/a", nil, nil), "no descriptors": execve.Exec(c, &execve.Task{Space: x.Space, Creds: x.Creds}, "/nowhere", nil, nil)} {
		if e != api.ErrNil || !reflect.DeepEqual(as(x), want) {
			t.Errorf("P23.2: %s: %d", name, e)
		}
	}
	if x.Space != old || old.Table() == nil {
		t.Error("P23.2: the space is another one")
	}
}

// TestWithoutFrames: of every size of a pool a second Exec does all, or nothing.
func TestWithoutFrames(t *testing.T) {
	first, second := 0, 0
	for n := 1; n <= 60; n++ {
		c := over(t, n)
		x := task(7)
		e := execve.Exec(c, x, "/bin/a", nil, nil)
		if e != api.OK {
			if e != api.ErrNoMem || x.Space != nil || x.Entry != 1 || x.Sp != 2 || !x.Secure || !x.Fds.List()[0].Used || x.Creds.Suid != 2 {
				t.Fatalf("P23.2: of %d frames: %d, %+v", n, e, x)
			}
			sound(t, c)
			continue
		}
		first = max(first, 61-n)
		x.Fds.Open(3, true)
		entry, creds, list, regions, leaves := x.Entry, x.Creds, x.Fds.List(), x.Space.Regions(), x.Space.Table().All()
		e = execve.Exec(c, x, "/bin/set", []string{"long", "er"}, nil)
		sound(t, c, x.Space)
		if e == api.OK {
			second = max(second, 61-n)
			continue
		}
		if e != api.ErrNoMem || x.Entry != entry || !reflect.DeepEqual(x.Creds, creds) || !slices.Equal(x.Fds.List(), list) || !slices.Equal(x.Space.Regions(), regions) || !slices.Equal(x.Space.Table().All(), leaves) {
			t.Fatalf("P23.2: of %d frames: %d", n, e)
		}
	}
	if first == 0 || second == 0 || second >= first {
		t.Errorf("P23.2: the first one goes with %d frames, the second one with %d", 61-first, 61-second)
	}
	if e := execve.Exec(over(t, 6), task(7), "/bin/a", nil, nil); e != api.ErrNoMem {
		t.Errorf("P23.2: of 6 frames: %d", e)
	}
}

func TestNothingIsKept(t *testing.T) {
	c := over(t, 90)
	x := task(7)
	groups := []uint32{4, 5}
	x.Creds.Groups = groups
	argv, env := []string{"a"}, []string{"X=1"}
	if e := execve.Exec(c, x, "/bin/a", argv, env); e != api.OK {
		t.Fatal(e)
	}
	groups[0] = 99
	if x.Creds.Groups[0] != 4 || argv[0] != "a" || env[0] != "X=1" {
		t.Errorf("R3: %v, %q, %q", x.Creds.Groups, argv, env)
	}
}
