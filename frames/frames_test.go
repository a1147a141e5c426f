package frames_test

import (
	"bytes"
	"math/rand"
	"testing"

	"hostel/api"
	"hostel/frames"
)

func made(t *testing.T, n int) *frames.Pool {
	t.Helper()
	p, e := frames.New(n)
	if p == nil || e != api.OK {
		t.Fatalf("P7.1: New(%d): %d", n, e)
	}
	return p
}

func take(t *testing.T, p *frames.Pool, want int, e api.Errno) {
	t.Helper()
	if f, err := p.Take(); f != want || err != e {
		t.Errorf("P7.2: Take: %d, %d, want %d, %d", f, err, want, e)
	}
}

func same(t *testing.T, what string, got, want api.Errno) {
	t.Helper()
	if got != want {
		t.Errorf("%s: %d, want %d", what, got, want)
	}
}

func load(t *testing.T, p *frames.Pool, f, off, n int, want string, e api.Errno) {
	t.Helper()
	if got, err := p.Load(f, off, n); string(got) != want || err != e {
		t.Errorf("P7.5: Load(%d, %d, %d): %q, %d", f, off, n, got, err)
	}
}

func TestNew(t *testing.T) {
	for _, n := range []int{0, -1, -1 << 63, 1025, 1 << 40, 1<<63 - 1} {
		if p, e := frames.New(n); p != nil || e != api.ErrArg {
			t.Errorf("P7.1: New(%d): %d", n, e)
		}
	}
	for _, n := range []int{1, 2, 63, 64, 65, 128, 1000, 1024} {
		p := made(t, n)
		if p.Size() != n || p.Free() != n {
			t.Errorf("P7.7: New(%d): %d, %d", n, p.Size(), p.Free())
		}
		for f := range n {
			if p.Count(f) != 0 {
				t.Errorf("P7.4: the frame %d", f)
			}
		}
		for f := range n {
			take(t, p, f, api.OK)
		}
		take(t, p, 0, api.ErrNoMem)
		if p.Size() != n || p.Free() != 0 {
			t.Errorf("P7.7: all taken: %d, %d", p.Size(), p.Free())
		}
		same(t, "P7.3: Down", p.Down(n-1), api.OK)
		take(t, p, n-1, api.OK)
	}
}

func TestTakeIsTheLowest(t *testing.T) {
	p := made(t, 200)
	for f := range 200 {
		take(t, p, f, api.OK)
	}
	for _, f := range []int{199, 3, 64, 130} {
		same(t, "P7.3: Down", p.Down(f), api.OK)
	}
	for _, f := range []int{3, 64, 130, 199} {
		take(t, p, f, api.OK)
		if p.Count(f) != 1 {
			t.Errorf("P7.2: count %d", p.Count(f))
		}
	}
}

func TestUpAndDown(t *testing.T) {
	p := made(t, 3)
	take(t, p, 0, api.OK)
	take(t, p, 1, api.OK)
	for i := range 1000 {
		same(t, "P7.3: Up", p.Up(1), api.OK)
		if p.Count(1) != i+2 || p.Count(0) != 1 {
			t.Fatalf("P7.3: count %d, %d", p.Count(1), p.Count(0))
		}
	}
	for i := range 1000 {
		same(t, "P7.3: Down", p.Down(1), api.OK)
		if p.Count(1) != 1000-i || p.Free() != 1 {
			t.Fatalf("P7.3: count %d", p.Count(1))
		}
	}
	same(t, "P7.3: the last Down", p.Down(1), api.OK)
	if p.Count(1) != 0 || p.Free() != 2 {
		t.Errorf("P7.3: count %d", p.Count(1))
	}
	for _, f := range []int{1, 2, 3, -1, 1 << 40, -1 << 63} {
		same(t, "P7.3: Up of a free one", p.Up(f), api.ErrArg)
		same(t, "P7.3: Down of a free one", p.Down(f), api.ErrArg)
		if p.Count(f) != 0 {
			t.Errorf("P7.4: Count(%d)", f)
		}
	}
	if p.Free() != 2 {
		t.Errorf("P7.7: Free: %d", p.Free())
	}
}

func TestLoadAndStore(t *testing.T) {
	const most = 1<<63 - 1
	p := made(t, 3)
	take(t, p, 0, api.OK)
	take(t, p, 1, api.OK)
	load(t, p, 0, 0, 4096, string(make([]byte, 4096)), api.OK)
	same(t, "P7.5: Store", p.Store(0, 4094, []byte("ab")), api.OK)
	same(t, "P7.5: Store", p.Store(0, 0, []byte("xyz")), api.OK)
	load(t, p, 0, 4093, 3, "\x00ab", api.OK)
	load(t, p, 0, 1, 2, "yz", api.OK)
	load(t, p, 1, 4094, 2, "\x00\x00", api.OK)
	same(t, "P7.5: Store of a whole one", p.Store(1, 0, bytes.Repeat([]byte{7}, 4096)), api.OK)
	load(t, p, 1, 0, 4096, string(bytes.Repeat([]byte{7}, 4096)), api.OK)
	load(t, p, 0, 3, 2, "\x00\x00", api.OK)
	load(t, p, 0, 4096, 0, "", api.OK)
	load(t, p, 0, 5, 0, "", api.OK)
	same(t, "P7.5: Store of none", p.Store(0, 4096, nil), api.OK)
	for _, x := range [][3]int{{2, 0, 1}, {3, 0, 1}, {-1, 0, 1}, {0, -1, 1}, {0, 0, -1}, {0, 4096, 1}, {0, 4095, 2}, {0, 0, 4097}, {0, 4097, 0}, {0, most, most}, {0, 1, most}, {0, -1 << 63, most}, {0, 5000, -1000}, {2, 0, 0}} {
		load(t, p, x[0], x[1], x[2], "", api.ErrArg)
		if x[2] >= 0 && x[2] < 5000 {
			same(t, "P7.5: Store", p.Store(x[0], x[1], make([]byte, x[2])), api.ErrArg)
		}
	}
	load(t, p, 0, 4093, 3, "\x00ab", api.OK)
}

func TestNothingIsShared(t *testing.T) {
	p := made(t, 1)
	take(t, p, 0, api.OK)
	b := []byte("abc")
	same(t, "Store", p.Store(0, 0, b), api.OK)
	b[0] = 'x'
	got, _ := p.Load(0, 0, 2)
	got[1] = 'x'
	_ = append(got, 'y')
	load(t, p, 0, 0, 4, "abc\x00", api.OK)
}

func TestCopy(t *testing.T) {
	p := made(t, 3)
	take(t, p, 0, api.OK)
	take(t, p, 1, api.OK)
	same(t, "Store", p.Store(1, 4095, []byte{7}), api.OK)
	same(t, "Down", p.Down(0), api.OK)
	if f, e := p.Copy(1); f != 0 || e != api.OK || p.Count(0) != 1 || p.Count(1) != 1 {
		t.Errorf("P7.6: Copy: %d, %d", f, e)
	}
	load(t, p, 0, 4094, 2, "\x00\x07", api.OK)
	same(t, "Store", p.Store(0, 4095, []byte{8}), api.OK)
	load(t, p, 1, 4094, 2, "\x00\x07", api.OK)
	for _, f := range []int{2, 3, -1} {
		if got, e := p.Copy(f); got != 0 || e != api.ErrArg {
			t.Errorf("P7.6: Copy(%d): %d, %d", f, got, e)
		}
	}
	take(t, p, 2, api.OK)
	if got, e := p.Copy(1); got != 0 || e != api.ErrNoMem {
		t.Errorf("P7.6: Copy of a full pool: %d, %d", got, e)
	}
	if got, e := p.Copy(9); got != 0 || e != api.ErrArg {
		t.Errorf("P7.6: Copy(9) of a full pool: %d, %d", got, e)
	}
}

func TestNil(t *testing.T) {
	var p *frames.Pool
	take(t, p, 0, api.ErrNil)
	same(t, "Up of nil", p.Up(-1), api.ErrNil)
	same(t, "Down of nil", p.Down(0), api.ErrNil)
	same(t, "Store of nil", p.Store(0, -1, nil), api.ErrNil)
	load(t, p, 0, -1, 0, "", api.ErrNil)
	if f, e := p.Copy(0); f != 0 || e != api.ErrNil {
		t.Errorf("Copy of nil: %d, %d", f, e)
	}
	if p.Count(0) != 0 || p.Free() != 0 || p.Size() != 0 {
		t.Error("P7.4, P7.7: of nil")
	}
}

// TestFramesAreApart: free and taken frames are all there are, and each has its own bytes (P7.8).
func TestFramesAreApart(t *testing.T) {
	r := rand.New(rand.NewSource(7))
	p := made(t, 70)
	count, data := make([]int, 70), make([]byte, 70)
	for step := range 20000 {
		f := r.Intn(72) - 1
		there := f >= 0 && f < 70 && count[f] > 0
		switch r.Intn(6) {
		case 0, 1:
			free := 0
			for free < 70 && count[free] > 0 {
				free++
			}
			got, e := p.Take()
			if free == 70 {
				same(t, "P7.2: Take", e, api.ErrNoMem)
			} else if got != free || e != api.OK {
				t.Fatalf("P7.2: step %d: %d, %d", step, got, e)
			} else {
				count[free], data[free] = 1, 0
			}
		case 2:
			if (p.Up(f) == api.OK) != there {
				t.Fatalf("P7.3: step %d", step)
			}
			if there {
				count[f]++
			}
		case 3, 4:
			if (p.Down(f) == api.OK) != there {
				t.Fatalf("P7.3: step %d", step)
			}
			if there {
				count[f]--
			}
		default:
			if (p.Store(f, 100, []byte{byte(step)}) == api.OK) != there {
				t.Fatalf("P7.5: step %d", step)
			}
			if there {
				data[f] = byte(step)
			}
		}
		free := 0
		for f := range 70 {
			if p.Count(f) != count[f] {
				t.Fatalf("P7.8: step %d: the frame %d", step, f)
			}
			if count[f] == 0 {
				free++
			} else if b, _ := p.Load(f, 100, 1); b[0] != data[f] {
				t.Fatalf("P7.8: step %d: the frame %d holds %d", step, f, b[0])
			}
		}
		if p.Free() != free {
			t.Fatalf("P7.7: step %d: %d", step, p.Free())
		}
	}
}

func TestTakenAgainHoldsNoughts(t *testing.T) {
	p := made(t, 1)
	take(t, p, 0, api.OK)
	same(t, "Store", p.Store(0, 0, bytes.Repeat([]byte{9}, 4096)), api.OK)
	same(t, "Down", p.Down(0), api.OK)
	take(t, p, 0, api.OK)
	load(t, p, 0, 0, 4096, string(make([]byte, 4096)), api.OK)
}
