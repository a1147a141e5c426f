package words_test

import (
	"bytes"
	"math/big"
	"math/rand"
	"testing"

	"hostel/api"
	"hostel/words"
)

const top = 1<<64 - 1

// edges are numbers around which sums wrap and pages begin.
var edges = []uint64{0, 1, 2, 3, 4, 5, 7, 8, 9, 4095, 4096, 4097, 8191, 8192, 8193, 1 << 32, 1<<47 - 1, 1 << 47, 1 << 63, 1<<63 - 1, top - 8192, top - 4096, top - 4095, top - 4094, top - 8, top - 1, top}

func number(x uint64) *big.Int { return new(big.Int).SetUint64(x) }

func sum(a, b uint64) *big.Int { return new(big.Int).Add(number(a), number(b)) }

func TestGet(t *testing.T) {
	b := []byte{1, 2, 3, 4, 5, 6, 7, 0x88, 9}
	for _, x := range []struct {
		at   uint64
		size int
		want uint64
		e    api.Errno
	}{
		{0, 1, 1, api.OK}, {8, 1, 9, api.OK}, {9, 1, 0, api.ErrShort},
		{0, 2, 0x201, api.OK}, {7, 2, 0x988, api.OK}, {8, 2, 0, api.ErrShort},
		{0, 4, 0x4030201, api.OK}, {5, 4, 0x9880706, api.OK}, {6, 4, 0, api.ErrShort},
		{0, 8, 0x8807060504030201, api.OK}, {1, 8, 0x988070605040302, api.OK}, {2, 8, 0, api.ErrShort},
		{0, 0, 0, api.ErrArg}, {0, 3, 0, api.ErrArg}, {0, 5, 0, api.ErrArg}, {0, 6, 0, api.ErrArg}, {0, 7, 0, api.ErrArg}, {0, 9, 0, api.ErrArg}, {0, 16, 0, api.ErrArg},
		{0, -1, 0, api.ErrArg}, {0, -8, 0, api.ErrArg}, {0, 1 << 40, 0, api.ErrArg}, {99, 3, 0, api.ErrArg},
		{top, 1, 0, api.ErrShort}, {top, 8, 0, api.ErrShort}, {top - 7, 8, 0, api.ErrShort}, {top - 3, 4, 0, api.ErrShort},
	} {
		if got, e := words.Get(b, x.at, x.size); got != x.want || e != x.e {
			t.Errorf("P1.1: Get at %d, size %d: %#x, %d", x.at, x.size, got, e)
		}
	}
	if got, e := words.Get(nil, 0, 1); got != 0 || e != api.ErrShort {
		t.Errorf("P1.1: Get of none: %d, %d", got, e)
	}
	if got, e := words.Get(b[:1], 0, 2); got != 0 || e != api.ErrShort {
		t.Errorf("P1.1: Get behind the end, within the room: %d, %d", got, e)
	}
}

func TestSet(t *testing.T) {
	for _, x := range []struct {
		b    string
		at   uint64
		size int
		x    uint64
		want string
		e    api.Errno
	}{
		{"\x01\x02\x03", 1, 2, 66051, "\x01\x03\x02", api.OK},
		{"\x01\x02\x03", 2, 1, 0x1ff, "\x01\x02\xff", api.OK},
		{"abcdefghij", 1, 8, 0x8877665544332211, "a\x11\x22\x33\x44\x55\x66\x77\x88j", api.OK},
		{"abcdefghij", 3, 4, 0x99887766, "abc\x66\x77\x88\x99hij", api.OK},
		{"abc", 2, 2, 0, "", api.ErrShort}, {"", 0, 1, 7, "", api.ErrShort}, {"abc", top, 1, 0, "", api.ErrShort},
		{"abc", 0, 3, 0, "", api.ErrArg}, {"", 9, 0, 0, "", api.ErrArg}, {"abc", 0, -2, 0, "", api.ErrArg},
	} {
		b := []byte(x.b)
		got, e := words.Set(b, x.at, x.size, x.x)
		if string(got) != x.want || e != x.e {
			t.Errorf("P1.2: Set of %q at %d, size %d: %q, %d", x.b, x.at, x.size, got, e)
		}
		if string(b) != x.b {
			t.Errorf("P1.2: Set turned what it was handed: %q", b)
		}
	}
}

func TestSetIsNew(t *testing.T) {
	room := []byte("abcdef")
	got, _ := words.Set(room[:3], 0, 1, 'x')
	got = append(got, 'y')
	got[1] = 'z'
	if string(room) != "abcdef" {
		t.Errorf("R3: the room behind, or the list itself: %q", room)
	}
}

func TestSetThenGet(t *testing.T) {
	r := rand.New(rand.NewSource(1))
	for range 2000 {
		b := make([]byte, r.Intn(20))
		r.Read(b)
		at, size, x := uint64(r.Intn(22)), []int{1, 2, 4, 8}[r.Intn(4)], r.Uint64()
		out, e := words.Set(b, at, size, x)
		if (e == api.OK) != (at+uint64(size) <= uint64(len(b))) {
			t.Fatalf("P1.2: %d bytes, at %d, size %d: %d", len(b), at, size, e)
		}
		if e != api.OK {
			continue
		}
		got, _ := words.Get(out, at, size)
		if got != x<<(64-8*size)>>(64-8*size) {
			t.Fatalf("P1.1: what Set has laid: %#x of %#x", got, x)
		}
		if !bytes.Equal(out[:at], b[:at]) || !bytes.Equal(out[at+uint64(size):], b[at+uint64(size):]) {
			t.Fatalf("P1.2: other bytes")
		}
		old, _ := words.Get(b, at, size)
		if same, _ := words.Set(b, at, size, old); !bytes.Equal(same, b) {
			t.Fatalf("P1.2: Set of what Get read")
		}
	}
}

func TestAddAndInside(t *testing.T) {
	limit := new(big.Int).Lsh(big.NewInt(1), 64)
	for _, a := range edges {
		for _, b := range edges {
			fits := sum(a, b).Cmp(limit) < 0
			want := a + b
			if !fits {
				want = 0
			}
			if got, ok := words.Add(a, b); got != want || ok != fits {
				t.Errorf("P1.3: Add(%d, %d): %d, %v", a, b, got, ok)
			}
			for _, end := range edges {
				if words.Inside(a, b, end) != (sum(a, b).Cmp(number(end)) <= 0) {
					t.Errorf("P1.3: Inside(%d, %d, %d)", a, b, end)
				}
			}
		}
	}
}

func TestDownAndUp(t *testing.T) {
	for _, a := range edges {
		if got := words.Down(a); got%4096 != 0 || got > a || a-got >= 4096 {
			t.Errorf("P1.4: Down(%d): %d", a, got)
		}
		got, ok := words.Up(a)
		if a > top-4095 {
			if got != 0 || ok {
				t.Errorf("P1.4: Up(%d): %d, %v", a, got, ok)
			}
		} else if !ok || got%4096 != 0 || got < a || got-a >= 4096 {
			t.Errorf("P1.4: Up(%d): %d, %v", a, got, ok)
		}
	}
}

func TestPages(t *testing.T) {
	for _, x := range []struct {
		from, size, first, many uint64
		e                       api.Errno
	}{
		{4095, 2, 0, 2, api.OK}, {4095, 1, 0, 1, api.OK}, {4096, 4096, 1, 1, api.OK}, {4096, 4097, 1, 2, api.OK}, {4097, 4096, 1, 2, api.OK}, {0, 0, 0, 0, api.OK}, {5, 0, 0, 0, api.OK}, {8192, 0, 2, 0, api.OK},
		{top, 1, 0, 0, api.ErrArg}, {top, 0, 1<<52 - 1, 0, api.OK}, {top - 1, 1, 1<<52 - 1, 1, api.OK}, {0, top, 0, 1 << 52, api.OK}, {1, top, 0, 0, api.ErrArg}, {top, top, 0, 0, api.ErrArg}, {4095, top - 4095, 0, 1 << 52, api.OK}, {1 << 63, 1 << 63, 0, 0, api.ErrArg},
	} {
		if f, m, e := words.Pages(x.from, x.size); f != x.first || m != x.many || e != x.e {
			t.Errorf("P1.5: Pages(%d, %d): %d, %d, %d", x.from, x.size, f, m, e)
		}
	}
	for from := range uint64(20) {
		from *= 1000
		for cut := (from/4096 + 1) * 4096; cut < 40000; cut += 4096 {
			_, a, _ := words.Pages(from, cut-from)
			_, b, _ := words.Pages(cut, 50000-cut)
			if _, all, _ := words.Pages(from, 50000-from); a+b != all {
				t.Errorf("P1.5: parted at %d: %d and %d of %d", cut, a, b, all)
			}
		}
	}
}
