package kernel_test

import (
	"bytes"
	"math/rand"
	"reflect"
	"slices"
	"testing"

	"hostel/api"
	"hostel/image"
	"hostel/kernel"
	"hostel/stack"
	"hostel/vfs"
)

// memoryOf are the pages of a process that are there, with their addresses.
func memoryOf(t *testing.T, k *kernel.Kernel, p api.Proc) map[uint64]string {
	t.Helper()
	out := map[uint64]string{}
	for _, put := range k.Space(p.Pid).Table().All() {
		b, e := k.Peek(p.Pid, put.Addr, api.Page)
		if e != api.OK {
			t.Fatalf("the page %#x of %d: %d", put.Addr, p.Pid, e)
		}
		out[put.Addr] = string(b)
	}
	return out
}

// TestImage: behind an exec the memory is the plan's (W3), and the stack says whether it is secure (W5).
func TestImage(t *testing.T) {
	files, _, _ := vfs.New(entries())
	env := []string{"X=1", "LD_LIBRARY_PATH=/nowhere", "LD_PRELOAD=p", "TMPDIR=/t", "LD_AUDIT"}
	for _, path := range []string{"/bin/a", "/bin/set", "/bin/d", "/s", "bin//a"} {
		k := started(t, 300)
		does(t, k, one{1, mapped(0, 1, 6), mb, "", 0}, one{1, store(mb, "old"), 0, "", 0}, one{1, open("/long", 1), 0, "", 0}, one{1, open("/long", 0), 1, "", 0}, one{1, read(1, 5), 0, string(long(5)), 0})
		before := k.Procs()[0]
		does(t, k, one{1, api.Call{Kind: api.CallExec, Path: path, Argv: []string{"x", "y"}, Env: env}, 0, "", 0})
		plan, e := image.Make(files, before.Creds, path, []string{"x", "y"}, env)
		if e != api.OK {
			t.Fatalf("W3: %s: %d", path, e)
		}
		p := k.Procs()[0]
		var pages []uint64
		for _, x := range plan.Pieces {
			for at := x.From; at < x.To; at += api.Page {
				pages = append(pages, at)
			}
		}
		slices.Sort(pages)
		var regs []uint64
		for _, r := range p.Regions {
			for at := r.From; at < r.To; at += api.Page {
				regs = append(regs, at)
				got, e := k.Peek(1, at, api.Page)
				want, _ := image.Bytes(files, plan, at, api.Page)
				if e != api.OK || !bytes.Equal(got, want) {
					t.Fatalf("W3: %s: the page %#x: %d", path, at, e)
				}
			}
		}
		if !slices.Equal(regs, pages) || p.Entry != plan.Entry || p.Sp != plan.Sp {
			t.Errorf("W3: %s: %#x, want %#x", path, regs, pages)
		}
		b, _ := k.Peek(1, p.Sp, int(api.StackTop-p.Sp))
		_, told, aux, e := stack.Read(b, p.Sp)
		lent := p.Creds.Euid != before.Creds.Euid
		secure := aux[len(aux)-2]
		if e != api.OK || secure.Key != api.AuxSecure || (secure.Value == 1) != lent || p.Secure != lent || lent != (path == "/bin/set") {
			t.Errorf("W5: %s: %v, %d", path, aux, e)
		}
		want := env
		if lent {
			want = []string{"X=1", "LD_AUDIT"}
		}
		slots := make([]api.Slot, api.MaxFds)
		slots[1] = before.Fds[1]
		if !slices.Equal(told, want) || !slices.Equal(p.Fds, slots) {
			t.Errorf("W5: %s: %q, %v", path, told, p.Fds)
		}
	}
}

// TestWholeOrNot: an exec that fails, for want of frames or otherwise, changes nothing (W4).
func TestWholeOrNot(t *testing.T) {
	failed, went := 0, 0
	for n := 30; n < 90; n++ {
		k := started(t, n)
		k.Run([]api.Step{{Pid: 1, Call: mapped(0, 0x3000, 6)}, {Pid: 1, Call: store(mb, "mine")}, {Pid: 1, Call: open("/long", 1)}, {Pid: 1, Call: fork}, {Pid: 2, Call: store(mb, "its")}, {Pid: 2, Call: open("/long", 1)}})
		procs := k.Procs()
		var memories []map[uint64]string
		for _, p := range procs {
			memories = append(memories, memoryOf(t, k, p))
		}
		for _, path := range []string{"/bin/d", "/nowhere", "/bin", "/long", "/secret"} {
			e := k.Do(2, exec(path)).Err
			same := 2
			if path == "/bin/d" && e == api.OK {
				same = 1 // the others, at least
				went++
			} else if e == api.OK {
				t.Fatalf("W4: of %d frames: %s is executed", n, path)
			}
			if e == api.ErrNoMem {
				failed++
			}
			for i, p := range k.Procs()[:same] {
				if !sameProc(p, procs[i]) || !reflect.DeepEqual(memoryOf(t, k, p), memories[i]) {
					t.Fatalf("W4: of %d frames, %s: %d: %d is another one", n, path, e, p.Pid)
				}
			}
			counted(t, k)
			if same == 1 {
				break
			}
		}
		end(t, k)
	}
	if failed == 0 || went == 0 {
		t.Errorf("W4: %d times ErrNoMem, %d times OK", failed, went)
	}
}

// TestNothingLeaks: what others than it and its ancestors store is nothing to a process, ErrNoMem included (W2).
func TestNothingLeaks(t *testing.T) {
	for seed := range int64(60) {
		r := rand.New(rand.NewSource(1000 + seed))
		frames := []int{30, 45, 70, 200}[seed%4]
		var one, other *kernel.Kernel
		one, e := kernel.New(config(frames))
		if e != api.OK {
			continue
		}
		other = started(t, frames)
		if a, b := one.Do(1, fork), other.Do(1, fork); !sameResult(a, b) || a.Err != api.OK {
			continue
		}
		// 2 forks nobody, and is nobody's ancestor; what it stores differs.
		for step := range 200 {
			s := chance(r)
			s.Pid = 1 + s.Pid%3
			if s.Pid == 2 && (s.Call.Kind == api.CallFork || s.Call.Kind == api.CallExit) {
				continue
			}
			t2 := s
			if s.Pid == 2 && s.Call.Kind == api.CallStore {
				t2.Call.Bytes = bytes.Repeat([]byte{0xee}, len(s.Call.Bytes))
			}
			a, b := one.Do(s.Pid, s.Call), other.Do(t2.Pid, t2.Call)
			if s.Pid == 2 && s.Call.Kind == api.CallLoad {
				a.Bytes, b.Bytes = nil, nil
			}
			if !sameResult(a, b) {
				t.Fatalf("W2: seed %d, step %d, %d does %+v: %+v and %+v", seed, step, s.Pid, s.Call, a, b)
			}
		}
	}
}
