package procs_test

import (
	"bytes"
	"math/rand"
	"reflect"
	"slices"
	"testing"

	"hostel/api"
	"hostel/cache"
	"hostel/frames"
	"hostel/maker"
	"hostel/procs"
	"hostel/vfs"
)

func over(t *testing.T, n int) *cache.Cache {
	t.Helper()
	a, e := maker.Make(api.Spec{Type: 2, Entry: 0x410000, Text: []byte{0xc3}, Data: []byte("data")})
	if e != api.OK {
		t.Fatal(e)
	}
	f, e, at := vfs.New([]api.Entry{{Path: "/bin", Kind: 2, Mode: 0o755}, {Path: "/bin/a", Kind: 1, Mode: 0o755, Uid: 5, Data: a}, {Path: "/bin/set", Kind: 1, Mode: 0o4755, Uid: 5, Data: a}})
	if e != api.OK {
		t.Fatal(e, at)
	}
	p, _ := frames.New(n)
	c, _ := cache.New(p, f)
	return c
}

var creds = api.Creds{Uid: 1, Euid: 7, Suid: 3, Gid: 4, Groups: []uint32{9, 8}}

func begun(t *testing.T, n int) (*procs.Table, *cache.Cache) {
	t.Helper()
	c := over(t, n)
	x, e := procs.New(c)
	if x == nil || e != api.OK {
		t.Fatalf("P24.1: New: %d", e)
	}
	if pid, e := x.Begin(creds, "/bin/a", []string{"a"}, []string{"X=1"}); pid != 1 || e != api.OK {
		t.Fatalf("P24.2: Begin: %d, %d", pid, e)
	}
	return x, c
}

func forks(t *testing.T, x *procs.Table, pid, want int, e api.Errno) {
	t.Helper()
	if got, err := x.Fork(pid); got != want || err != e {
		t.Errorf("P24.3: Fork(%d): %d, %d, want %d, %d", pid, got, err, want, e)
	}
}

func exits(t *testing.T, x *procs.Table, pid int, code uint64, e api.Errno) {
	t.Helper()
	if err := x.Exit(pid, code); err != e {
		t.Errorf("P24.4: Exit(%d): %d, want %d", pid, err, e)
	}
}

func waits(t *testing.T, x *procs.Table, pid, child int, code uint64, e api.Errno) {
	t.Helper()
	if got, c, err := x.Wait(pid); got != child || c != code || err != e {
		t.Errorf("P24.5: Wait(%d): %d, %d, %d, want %d, %d, %d", pid, got, c, err, child, code, e)
	}
}

// lists holds the list against pid, parent and state of each process.
func lists(t *testing.T, x *procs.Table, want ...[3]int) {
	t.Helper()
	var got [][3]int
	for _, p := range x.List() {
		got = append(got, [3]int{p.Pid, p.Parent, int(p.State)})
	}
	if !slices.Equal(got, want) {
		t.Errorf("P24.6: List: %v, want %v", got, want)
	}
}

func TestExamples(t *testing.T) {
	x, c := begun(t, 100)
	if pid, e := x.Begin(creds, "/bin/a", nil, nil); pid != 0 || e != api.ErrThere {
		t.Errorf("P24.2: Begin again: %d, %d", pid, e)
	}
	forks(t, x, 1, 2, api.OK)
	forks(t, x, 2, 3, api.OK)
	forks(t, x, 9, 0, api.ErrPid)
	lists(t, x, [3]int{1, 0, 1}, [3]int{2, 1, 1}, [3]int{3, 2, 1})
	exits(t, x, 2, 7, api.OK)
	lists(t, x, [3]int{1, 0, 1}, [3]int{2, 1, 2}, [3]int{3, 1, 1})
	waits(t, x, 1, 2, 7, api.OK)
	waits(t, x, 1, 0, 0, api.ErrAgain)
	exits(t, x, 3, 1, api.OK)
	exits(t, x, 1, 0, api.OK)
	lists(t, x)
	c.Drop()
	if c.Pool().Free() != 100 {
		t.Errorf("P24.4: %d frames are free", c.Pool().Free())
	}
}

func TestNewAndBegin(t *testing.T) {
	if x, e := procs.New(nil); x != nil || e != api.ErrNil {
		t.Errorf("P24.1: without a cache: %d", e)
	}
	c := over(t, 100)
	x, _ := procs.New(c)
	lists(t, x)
	for path, e := range map[string]api.Errno{"/nowhere": api.ErrNoEnt, "/bin": api.ErrAccess} {
		if pid, err := x.Begin(creds, path, nil, nil); pid != 0 || err != e {
			t.Errorf("P24.2: Begin of %s: %d, %d", path, pid, err)
		}
		lists(t, x)
	}
	if pid, e := x.Begin(creds, "/bin/a", make([]string, 33), nil); pid != 0 || e != api.ErrBig {
		t.Errorf("P24.2: 33 arguments: %d", e)
	}
	small, _ := procs.New(over(t, 4))
	if pid, e := small.Begin(creds, "/bin/a", nil, nil); pid != 0 || e != api.ErrNoMem {
		t.Errorf("P24.2: of 4 frames: %d, %d", pid, e)
	}
	groups := []uint32{9, 8}
	mine := creds
	mine.Groups = groups
	if pid, e := x.Begin(mine, "/bin/set", nil, nil); pid != 1 || e != api.OK {
		t.Errorf("P24.2: Begin: %d, %d", pid, e)
	}
	groups[0] = 77
	p := x.List()[0]
	if want := (api.Creds{Uid: 1, Euid: 5, Suid: 5, Gid: 4, Groups: []uint32{9, 8}}); !reflect.DeepEqual(p.Creds, want) || !p.Secure || !slices.Equal(p.Fds, make([]api.Slot, 16)) {
		t.Errorf("P24.2: %+v", p)
	}
	exits(t, x, 1, 0, api.OK)
	if pid, e := x.Begin(creds, "/bin/a", nil, nil); pid != 1 || e != api.OK {
		t.Errorf("P24.2: Begin when nobody is there: %d, %d", pid, e)
	}
}

func TestForkIsACopy(t *testing.T) {
	x, _ := begun(t, 200)
	a, e := x.Task(1)
	if e != api.OK {
		t.Fatal(e)
	}
	a.Fds.Open(2, true)
	a.Fds.Move(0, 5)
	a.Space.Poke(0x420000, []byte("DATA"))
	forks(t, x, 1, 2, api.OK)
	b, _ := x.Task(2)
	if a == b || a.Space == b.Space || a.Fds == b.Fds || a.Entry != b.Entry || a.Sp != b.Sp || a.Secure != b.Secure || !reflect.DeepEqual(a.Creds, b.Creds) || !slices.Equal(a.Fds.List(), b.Fds.List()) || !slices.Equal(a.Space.Regions(), b.Space.Regions()) {
		t.Errorf("P24.3: %+v and %+v", a, b)
	}
	b.Space.Poke(0x420000, []byte("x"))
	b.Fds.Close(0)
	b.Creds.Groups[0] = 1
	if got, _ := a.Space.Peek(0x420000, 4); string(got) != "DATA" || !a.Fds.List()[0].Used || a.Creds.Groups[0] != 9 {
		t.Errorf("P24.3: the parent's is the child's: %q", got)
	}
	if again, _ := x.Task(1); again != a {
		t.Error("P24.6: Task is a copy")
	}
	l := x.List()
	want := api.Proc{Pid: 1, State: api.StRuns, Creds: a.Creds, Fds: a.Fds.List(), Regions: a.Space.Regions(), Entry: a.Entry, Sp: a.Sp, Secure: a.Secure}
	want.Creds.Groups = slices.Clone(want.Creds.Groups)
	if !reflect.DeepEqual(l[0], want) || l[0].Entry != 0x410000 || l[0].Sp == 0 {
		t.Errorf("P24.6: %+v, want %+v", l[0], want)
	}
	l[0].Creds.Groups[0], l[0].Fds[0].Ino, l[0].Regions[0].Prot = 77, 77, 0
	if !reflect.DeepEqual(x.List()[0], want) {
		t.Error("R3: List is shared")
	}
	exits(t, x, 2, 1<<64-1, api.OK)
	if got := x.List()[1]; !reflect.DeepEqual(got, api.Proc{Pid: 2, Parent: 1, State: api.StEnded, Code: 1<<64 - 1}) {
		t.Errorf("P24.6: of one that has ended: %+v", got)
	}
	a.Secure = true
	if !x.List()[0].Secure {
		t.Error("P24.6: what is done to the task is told")
	}
}

func TestMany(t *testing.T) {
	x, _ := begun(t, 300)
	for i := 2; i <= 16; i++ {
		forks(t, x, i/2, i, api.OK)
	}
	forks(t, x, 1, 0, api.ErrMany)
	forks(t, x, 17, 0, api.ErrPid)
	exits(t, x, 9, 90, api.OK)
	forks(t, x, 1, 0, api.ErrMany) // 9 has ended, but was not waited for
	waits(t, x, 4, 9, 90, api.OK)
	exits(t, x, 12, 120, api.OK)
	waits(t, x, 6, 12, 120, api.OK)
	forks(t, x, 3, 9, api.OK)
	forks(t, x, 3, 12, api.OK)
	forks(t, x, 3, 0, api.ErrMany)
}

func TestPids(t *testing.T) {
	x, _ := begun(t, 100)
	forks(t, x, 1, 2, api.OK)
	exits(t, x, 2, 5, api.OK)
	for _, pid := range []int{0, -1, 2, 3, 16, 17, 1 << 40, -1 << 63} {
		forks(t, x, pid, 0, api.ErrPid)
		exits(t, x, pid, 0, api.ErrPid)
		waits(t, x, pid, 0, 0, api.ErrPid)
		if task, e := x.Task(pid); task != nil || e != api.ErrPid {
			t.Errorf("P24.6: Task(%d): %d", pid, e)
		}
	}
	lists(t, x, [3]int{1, 0, 1}, [3]int{2, 1, 2})
	var none *procs.Table
	forks(t, none, 1, 0, api.ErrNil)
	exits(t, none, 1, 0, api.ErrNil)
	waits(t, none, 1, 0, 0, api.ErrNil)
	lists(t, none)
	if pid, e := none.Begin(creds, "", nil, nil); pid != 0 || e != api.ErrNil {
		t.Errorf("P24.2: of nil: %d", e)
	}
	if task, e := none.Task(1); task != nil || e != api.ErrNil {
		t.Errorf("P24.6: of nil: %d", e)
	}
}

func TestParents(t *testing.T) {
	x, _ := begun(t, 200)
	forks(t, x, 1, 2, api.OK)
	forks(t, x, 2, 3, api.OK)
	forks(t, x, 2, 4, api.OK)
	forks(t, x, 3, 5, api.OK)
	exits(t, x, 4, 40, api.OK)
	exits(t, x, 2, 20, api.OK)
	lists(t, x, [3]int{1, 0, 1}, [3]int{2, 1, 2}, [3]int{3, 1, 1}, [3]int{4, 1, 2}, [3]int{5, 3, 1})
	waits(t, x, 3, 0, 0, api.ErrAgain)
	waits(t, x, 5, 0, 0, api.ErrChild)
	waits(t, x, 1, 2, 20, api.OK)
	waits(t, x, 1, 4, 40, api.OK)
	waits(t, x, 1, 0, 0, api.ErrAgain)
	exits(t, x, 5, 50, api.OK)
	forks(t, x, 3, 2, api.OK)
	exits(t, x, 1, 10, api.OK) // the first ends: its children have no parent
	lists(t, x, [3]int{2, 3, 1}, [3]int{3, 0, 1}, [3]int{5, 3, 2})
	exits(t, x, 3, 30, api.OK) // nobody waits for 3, nor for 5
	lists(t, x, [3]int{2, 0, 1})
	waits(t, x, 2, 0, 0, api.ErrChild)
	forks(t, x, 2, 1, api.OK) // the number 1 again
	lists(t, x, [3]int{1, 2, 1}, [3]int{2, 0, 1})
	forks(t, x, 2, 3, api.OK)
	forks(t, x, 3, 4, api.OK)
	exits(t, x, 3, 31, api.OK) // 4 is the child of the one that is the first now
	lists(t, x, [3]int{1, 2, 1}, [3]int{2, 0, 1}, [3]int{3, 2, 2}, [3]int{4, 1, 1})
	exits(t, x, 1, 11, api.OK) // which has a parent itself
	lists(t, x, [3]int{1, 2, 2}, [3]int{2, 0, 1}, [3]int{3, 2, 2}, [3]int{4, 0, 1})
	waits(t, x, 2, 1, 11, api.OK)
	waits(t, x, 2, 3, 31, api.OK)
	waits(t, x, 2, 0, 0, api.ErrChild)
	exits(t, x, 4, 0, api.OK)
	exits(t, x, 2, 0, api.OK)
	lists(t, x)
}

func TestForkWithoutFrames(t *testing.T) {
	failed := false
	for n := 5; n < 60; n++ {
		c := over(t, n)
		x, _ := procs.New(c)
		if _, e := x.Begin(creds, "/bin/a", nil, nil); e != api.OK {
			continue
		}
		pid, e := x.Fork(1)
		if e != api.OK {
			failed = true
			if e != api.ErrNoMem || pid != 0 {
				t.Errorf("P24.3: of %d frames: %d, %d", n, pid, e)
			}
			lists(t, x, [3]int{1, 0, 1})
		}
	}
	if !failed {
		t.Error("P24.3: Fork never fails")
	}
}

// TestTables holds a table against a list of parents and codes (P24.7). The number 1 is not used twice.
func TestTables(t *testing.T) {
	r := rand.New(rand.NewSource(24))
	for range 25 {
		x, c := begun(t, 400)
		parent, state, code := map[int]int{1: 0}, map[int]api.State{1: api.StRuns}, map[int]uint64{}
		data := map[int]byte{1: 'd'}
		for step := range 150 {
			pid := 1 + r.Intn(16)
			runs := state[pid] == api.StRuns
			switch op := r.Intn(10); {
			case op < 5:
				if state[1] != api.StRuns {
					continue
				}
				free := 1
				for free <= 16 && state[free] != api.StNone {
					free++
				}
				got, e := x.Fork(pid)
				if !runs && e != api.ErrPid || runs && free == 17 && e != api.ErrMany || runs && free < 17 && (e != api.OK || got != free) {
					t.Fatalf("P24.3: step %d: %d, %d", step, got, e)
				}
				if e == api.OK {
					parent[got], state[got], data[got] = pid, api.StRuns, data[pid]
				}
			case op < 7:
				if pid == 1 && r.Intn(4) > 0 {
					continue
				}
				if e := x.Exit(pid, uint64(step)); (e == api.OK) != runs {
					t.Fatalf("P24.4: step %d: %d", step, e)
				}
				if !runs {
					continue
				}
				state[pid], code[pid] = api.StEnded, uint64(step)
				for q := 1; q <= 16; q++ {
					if state[q] != api.StNone && parent[q] == pid {
						parent[q] = 0
						if state[1] == api.StRuns {
							parent[q] = 1
						}
					}
				}
				for q := 1; q <= 16; q++ {
					if state[q] == api.StEnded && parent[q] == 0 {
						state[q] = api.StNone
					}
				}
			case op < 9:
				child, e := 0, api.ErrChild
				for q := 16; q >= 1; q-- {
					if state[q] == api.StNone || parent[q] != pid {
						continue
					}
					if state[q] == api.StEnded {
						child, e = q, api.OK
					} else if e == api.ErrChild {
						e = api.ErrAgain
					}
				}
				if !runs {
					child, e = 0, api.ErrPid
				}
				got, gotCode, err := x.Wait(pid)
				if got != child || err != e || e == api.OK && gotCode != code[child] {
					t.Fatalf("P24.5: step %d: %d, %d, %d, want %d, %d", step, got, gotCode, err, child, e)
				}
				state[child] = api.StNone
			default:
				if task, e := x.Task(pid); e == api.OK {
					data[pid] = byte(step)
					task.Space.Poke(0x420000, []byte{byte(step)})
				}
			}
			some := false
			for _, p := range x.List() {
				if p.State != state[p.Pid] || p.Parent != parent[p.Pid] || p.Parent != 0 && state[p.Parent] != api.StRuns {
					t.Fatalf("P24.7: step %d: %+v", step, p)
				}
				if task, e := x.Task(p.Pid); e == api.OK {
					some = true
					if b, _ := task.Space.Peek(0x420000, 1); !bytes.Equal(b, []byte{data[p.Pid]}) {
						t.Fatalf("P24.3: step %d: %d has %v", step, p.Pid, b)
					}
				}
			}
			if !some {
				break
			}
		}
		for pid := 16; pid >= 1; pid-- {
			x.Exit(pid, 0)
		}
		c.Drop()
		if len(x.List()) != 0 || c.Pool().Free() != 400 {
			t.Fatalf("P24.7: %v, %d frames are free", x.List(), c.Pool().Free())
		}
	}
}
