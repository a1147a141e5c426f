package audit_test

import (
	"math/rand"
	"slices"
	"testing"

	"hostel/api"
	"hostel/audit"
	"hostel/kernel"
	"hostel/maker"
)

const mb = api.MapBase

func started(t *testing.T, frames int) *kernel.Kernel {
	t.Helper()
	a, e := maker.Make(api.Spec{Type: 2, Entry: 0x410000, Text: []byte{0xc3}, Data: []byte("data")})
	if e != api.OK {
		t.Fatal(e)
	}
	k, e := kernel.New(api.Config{Frames: frames, Entries: []api.Entry{{Path: "/a", Kind: 1, Mode: 0o755, Data: a}, {Path: "/f", Kind: 1, Mode: 0o644, Data: make([]byte, 20000)}}, Path: "/a", Creds: api.Creds{Euid: 7}})
	if e != api.OK {
		t.Fatalf("of %d frames: %d", frames, e)
	}
	return k
}

func do(t *testing.T, k *kernel.Kernel, pid int, c api.Call) api.Result {
	t.Helper()
	r := k.Do(pid, c)
	if r.Err != api.OK {
		t.Fatalf("%d does %+v: %d", pid, c, r.Err)
	}
	return r
}

func needs(t *testing.T, k *kernel.Kernel, want int) {
	t.Helper()
	if got := audit.Need(k); got != want {
		t.Errorf("P27.3: Need: %d, want %d", got, want)
	}
	if !audit.Sound(k) {
		t.Errorf("P27.4: not sound: %v", audit.Frames(k))
	}
}

// total is what is told of all frames together.
func total(k *kernel.Kernel) api.Held {
	var sum api.Held
	for _, h := range audit.Frames(k) {
		sum.Count += h.Count
		sum.Leaves += h.Leaves
		sum.Nodes += h.Nodes
		sum.Roots += h.Roots
		sum.Slots += h.Slots
	}
	return sum
}

func told(t *testing.T, k *kernel.Kernel, want api.Held) {
	t.Helper()
	if got := total(k); got != want {
		t.Errorf("P27.1: all together: %+v, want %+v", got, want)
	}
	pool := k.Cache().Pool()
	frames := audit.Frames(k)
	if len(frames) != pool.Size() {
		t.Fatalf("P27.1: %d frames", len(frames))
	}
	for f, h := range frames {
		if h.Count != pool.Count(f) {
			t.Errorf("P27.1: the frame %d is counted %d times", f, h.Count)
		}
	}
}

func TestStepByStep(t *testing.T) {
	k := started(t, 60)
	needs(t, k, 5) // the stack's last page, and four nodes
	told(t, k, api.Held{Count: 5, Leaves: 1, Nodes: 3, Roots: 1})
	do(t, k, 1, api.Call{Kind: api.CallMap, B: 8192, C: 6})
	needs(t, k, 5)
	do(t, k, 1, api.Call{Kind: api.CallStore, A: mb, Bytes: []byte("x")})
	needs(t, k, 9)
	do(t, k, 1, api.Call{Kind: api.CallLoad, A: 0x410000, B: 1})
	needs(t, k, 12)
	told(t, k, api.Held{Count: 13, Leaves: 3, Nodes: 8, Roots: 1, Slots: 1})
	do(t, k, 1, api.Call{Kind: api.CallFork})
	needs(t, k, 24)
	told(t, k, api.Held{Count: 25, Leaves: 6, Nodes: 16, Roots: 2, Slots: 1})
	leaf, _ := k.Space(1).Table().Find(mb)
	text, _ := k.Space(1).Table().Find(0x410000)
	frames := audit.Frames(k)
	if frames[leaf.Frame] != (api.Held{Count: 2, Leaves: 2}) || frames[text.Frame] != (api.Held{Count: 3, Leaves: 2, Slots: 1}) {
		t.Errorf("P27.1: %+v, %+v", frames[leaf.Frame], frames[text.Frame])
	}
	for i, n := range k.Space(2).Table().Nodes() {
		want := api.Held{Count: 1, Nodes: 1}
		if i == 0 {
			want = api.Held{Count: 1, Roots: 1}
		}
		if frames[n] != want {
			t.Errorf("P27.1: the node %d: %+v", n, frames[n])
		}
	}
	do(t, k, 2, api.Call{Kind: api.CallStore, A: mb, Bytes: []byte("y")})
	needs(t, k, 24)
	do(t, k, 2, api.Call{Kind: api.CallOpen, Path: "/f"})
	do(t, k, 2, api.Call{Kind: api.CallRead, B: 4096})
	needs(t, k, 24)
	told(t, k, api.Held{Count: 26, Leaves: 6, Nodes: 16, Roots: 2, Slots: 2})
	do(t, k, 2, api.Call{Kind: api.CallExit})
	needs(t, k, 12)
	do(t, k, 1, api.Call{Kind: api.CallUnmap, A: mb, B: 1})
	needs(t, k, 9) // its page, and two nodes of its own: the one below the root has the program's, too
	do(t, k, 1, api.Call{Kind: api.CallExec, Path: "/a"})
	needs(t, k, 5)
	do(t, k, 1, api.Call{Kind: api.CallExit})
	needs(t, k, 0)
	told(t, k, api.Held{Count: 2, Slots: 2})
	k.Cache().Drop()
	told(t, k, api.Held{})
	if k.Cache().Pool().Free() != 60 {
		t.Errorf("P27.4: %d frames are free", k.Cache().Pool().Free())
	}
}

func TestNotSound(t *testing.T) {
	for _, turn := range []func(k *kernel.Kernel, f int){
		func(k *kernel.Kernel, f int) { k.Cache().Pool().Up(f) },
		func(k *kernel.Kernel, f int) { k.Cache().Pool().Down(f) },
		func(k *kernel.Kernel, f int) { k.Cache().Take() },
	} {
		k := started(t, 60)
		do(t, k, 1, api.Call{Kind: api.CallLoad, A: 0x410000, B: 1})
		leaf, _ := k.Space(1).Table().Find(0x410000)
		if !audit.Sound(k) {
			t.Error("P27.2: not sound")
		}
		turn(k, leaf.Frame)
		if audit.Sound(k) {
			t.Error("P27.2: sound, but for what was turned")
		}
	}
}

func TestNil(t *testing.T) {
	if len(audit.Frames(nil)) != 0 || !audit.Sound(nil) || audit.Need(nil) != 0 {
		t.Error("P27.1, P27.2, P27.3: of no kernel")
	}
	k := started(t, 60)
	audit.Frames(k)[0].Count = 99
	if !audit.Sound(k) {
		t.Error("R3: Frames are shared")
	}
}

// TestSoundAtAllTimes runs scripts made by chance over pools of several sizes (P27.4).
func TestSoundAtAllTimes(t *testing.T) {
	places := []uint64{mb, mb + 0x1000, mb + 1<<30, 0x400000, 0x420000, api.StackTop - 0x1000}
	for seed := range int64(24) {
		r := rand.New(rand.NewSource(seed))
		n := []int{12, 20, 40, 200}[seed%4]
		k := started(t, n)
		for step := range 120 {
			at := places[r.Intn(len(places))]
			call := []api.Call{
				{Kind: api.CallFork}, {Kind: api.CallFork}, {Kind: api.CallWait}, {Kind: api.CallExec, Path: "/a"}, {Kind: api.CallExec, Path: "/f"}, {Kind: api.CallMap, A: at, B: 0x3000, C: 6}, {Kind: api.CallMap, A: at, B: 0x2000, C: 7, D: 1}, {Kind: api.CallUnmap, A: at, B: 0x1000}, {Kind: api.CallLoad, A: at + 4000, B: 200}, {Kind: api.CallLoad, A: at, B: 1}, {Kind: api.CallStore, A: at + 4095, Bytes: []byte("ab")}, {Kind: api.CallStore, A: at, Bytes: []byte("c")}, {Kind: api.CallOpen, Path: "/f"}, {Kind: api.CallRead, B: 4096}, {Kind: api.CallExit}, {Kind: api.CallProtect, A: at, B: 1, C: 4},
			}[r.Intn(16)]
			pid := 1 + r.Intn(4)
			if pid == 1 && call.Kind == api.CallExit {
				pid = 2
			}
			k.Do(pid, call)
			if !audit.Sound(k) {
				t.Fatalf("P27.4: seed %d, step %d: %v", seed, step, audit.Frames(k))
			}
			sum := total(k)
			if audit.Need(k) != sum.Leaves+sum.Nodes+sum.Roots {
				t.Fatalf("P27.3: seed %d, step %d: %d of %+v", seed, step, audit.Need(k), sum)
			}
			free := 0
			for _, h := range audit.Frames(k) {
				if h.Count == 0 {
					free++
				}
			}
			if free != k.Cache().Pool().Free() {
				t.Fatalf("P27.1: seed %d, step %d: %d are free", seed, step, free)
			}
		}
		for pid := 16; pid > 0; pid-- {
			k.Do(pid, api.Call{Kind: api.CallExit})
		}
		k.Cache().Drop()
		if !slices.Equal(audit.Frames(k), make([]api.Held, n)) || audit.Need(k) != 0 {
			t.Fatalf("P27.4: seed %d: %v", seed, audit.Frames(k))
		}
	}
}
