package calls_test

import (
	"bytes"
	"math/rand"
	"reflect"
	"slices"
	"strings"
	"testing"

	"hostel/api"
	"hostel/calls"
)

const top = 1<<64 - 1

// full are calls in which every field of their kind is there.
func full() []api.Call {
	return []api.Call{
		{Kind: api.CallExec, Path: "/p", Argv: []string{"a", ""}, Env: []string{"X=1"}}, {Kind: api.CallFork}, {Kind: api.CallExit, A: top}, {Kind: api.CallWait}, {Kind: api.CallMap, A: 1, B: 2, C: 3, D: 4, E: 5}, {Kind: api.CallUnmap, A: 1, B: top}, {Kind: api.CallProtect, A: 1, B: 2, C: top}, {Kind: api.CallLoad, A: top, B: 4096}, {Kind: api.CallStore, A: 5, Bytes: []byte{7, 8}}, {Kind: api.CallOpen, Path: "a", A: 1}, {Kind: api.CallClose, A: 99}, {Kind: api.CallRead, A: 3, B: 4},
	}
}

func many(n int, s string) []string { return slices.Repeat([]string{s}, n) }

func TestCheck(t *testing.T) {
	long := strings.Repeat("a", 257)
	for _, x := range []struct {
		c api.Call
		e api.Errno
	}{
		{api.Call{}, api.ErrCall}, {api.Call{Kind: 13}, api.ErrCall}, {api.Call{Kind: 99, A: 1}, api.ErrCall}, {api.Call{Kind: 255}, api.ErrCall},
		{api.Call{Kind: api.CallExec, Path: "a"}, api.OK}, {api.Call{Kind: api.CallExec}, api.ErrNoEnt}, {api.Call{Kind: api.CallExec, Path: "\x00"}, api.ErrArg}, {api.Call{Kind: api.CallExec, Path: long}, api.ErrLong}, {api.Call{Kind: api.CallExec, Path: "a", Argv: many(32, "a"), Env: many(32, "b")}, api.OK}, {api.Call{Kind: api.CallExec, Path: "a", Argv: many(33, "")}, api.ErrBig}, {api.Call{Kind: api.CallExec, Path: "a", Env: many(33, "")}, api.ErrBig}, {api.Call{Kind: api.CallExec, Path: "a", Argv: []string{long}}, api.ErrBig}, {api.Call{Kind: api.CallExec, Path: "a", Argv: []string{"\x00"}, Env: many(33, "")}, api.ErrArg}, {api.Call{Kind: api.CallExec, Path: "a", Argv: many(33, ""), Env: []string{"\x00"}}, api.ErrBig}, {api.Call{Kind: api.CallExec, Path: "a", Env: []string{"\x00"}}, api.ErrArg}, {api.Call{Kind: api.CallExec, Argv: many(33, "")}, api.ErrNoEnt}, {api.Call{Kind: api.CallExec, A: 1}, api.ErrArg}, {api.Call{Kind: api.CallExec, Path: long, Bytes: []byte{1}}, api.ErrArg},
		{api.Call{Kind: api.CallLoad, A: top, B: 4096}, api.OK}, {api.Call{Kind: api.CallLoad, B: 4097}, api.ErrBig}, {api.Call{Kind: api.CallLoad, B: top}, api.ErrBig}, {api.Call{Kind: api.CallLoad, B: 4097, C: 1}, api.ErrArg}, {api.Call{Kind: api.CallRead, A: top, B: 4096}, api.OK}, {api.Call{Kind: api.CallRead, B: 4097}, api.ErrBig},
		{api.Call{Kind: api.CallStore, Bytes: make([]byte, 4096)}, api.OK}, {api.Call{Kind: api.CallStore, Bytes: make([]byte, 4097)}, api.ErrBig}, {api.Call{Kind: api.CallStore}, api.OK}, {api.Call{Kind: api.CallStore, B: 1, Bytes: make([]byte, 4097)}, api.ErrArg},
		{api.Call{Kind: api.CallOpen, Path: "a"}, api.OK}, {api.Call{Kind: api.CallOpen, Path: "a", A: 2}, api.ErrArg}, {api.Call{Kind: api.CallOpen, A: 2}, api.ErrNoEnt}, {api.Call{Kind: api.CallOpen, Path: long, A: 2}, api.ErrLong}, {api.Call{Kind: api.CallOpen, Path: "a", A: top}, api.ErrArg},
		{api.Call{Kind: api.CallMap, A: top, B: top, C: top, D: top, E: top}, api.OK}, {api.Call{Kind: api.CallUnmap, A: top, B: top}, api.OK}, {api.Call{Kind: api.CallProtect, A: top, B: top, C: top}, api.OK}, {api.Call{Kind: api.CallExit}, api.OK}, {api.Call{Kind: api.CallClose, A: top}, api.OK},
		{api.Call{Kind: api.CallFork, Argv: []string{}, Env: []string{}, Bytes: []byte{}}, api.OK}, {api.Call{Kind: api.CallFork, A: 1}, api.ErrArg},
	} {
		if e := calls.Check(x.c); e != x.e {
			t.Errorf("P25.1: %.80v: %d, want %d", x.c, e, x.e)
		}
		if b, e := calls.Form(x.c); e != x.e || e != api.OK && len(b) != 0 {
			t.Errorf("P25.2: %.80v: %d, want %d", x.c, e, x.e)
		}
	}
}

// TestFields: a field that a kind does not have is refused, one that it has is not.
func TestFields(t *testing.T) {
	has := []string{"Path Argv Env", "", "A", "", "A B C D E", "A B", "A B C", "A B", "A Bytes", "Path A", "A", "A B"}
	one := map[string]func(c *api.Call){
		"A": func(c *api.Call) { c.A = 1 }, "B": func(c *api.Call) { c.B = 1 }, "C": func(c *api.Call) { c.C = 1 }, "D": func(c *api.Call) { c.D = 1 }, "E": func(c *api.Call) { c.E = 1 },
		"Path": func(c *api.Call) { c.Path = "p" }, "Argv": func(c *api.Call) { c.Argv = []string{""} }, "Env": func(c *api.Call) { c.Env = []string{""} }, "Bytes": func(c *api.Call) { c.Bytes = []byte{0} },
	}
	for i, fields := range has {
		for name, turn := range one {
			c := api.Call{Kind: uint8(i + 1)}
			if strings.Contains(fields, "Path") {
				c.Path = "p"
			}
			turn(&c)
			want := api.ErrArg
			if slices.Contains(strings.Fields(fields), name) {
				want = api.OK
			}
			if e := calls.Check(c); e != want {
				t.Errorf("P25.1: %s of the kind %d: %d, want %d", name, i+1, e, want)
			}
		}
	}
}

func TestForm(t *testing.T) {
	n := func(x ...byte) string {
		var s string
		for _, b := range x {
			s += string([]byte{b, 0, 0, 0, 0, 0, 0, 0})
		}
		return s
	}
	all := strings.Repeat("\xff", 8)
	want := []string{
		"\x01\x02\x00/p\x02\x01\x00a\x00\x00\x01\x03\x00X=1", "\x02", "\x03" + all, "\x04", "\x05" + n(1, 2, 3, 4, 5), "\x06" + n(1) + all, "\x07" + n(1, 2) + all, "\x08" + all + "\x00\x10\x00\x00\x00\x00\x00\x00", "\x09" + n(5) + "\x02\x00\x07\x08", "\x0a\x01\x00a" + n(1), "\x0b" + n(99), "\x0c" + n(3, 4),
	}
	for i, c := range full() {
		b, e := calls.Form(c)
		if string(b) != want[i] || e != api.OK {
			t.Errorf("P25.2: the kind %d: %x, %d", c.Kind, b, e)
		}
		for _, behind := range []string{"", "\x00", "\xff\x02\x03"} {
			got, n, e := calls.Read([]byte(want[i] + behind))
			if !reflect.DeepEqual(got, c) || n != len(want[i]) || e != api.OK {
				t.Errorf("P25.3: the kind %d: %v, %d, %d", c.Kind, got, n, e)
			}
		}
		for n := range len(want[i]) {
			if got, n, e := calls.Read([]byte(want[i][:n])); !reflect.DeepEqual(got, api.Call{}) || n != 0 || e != api.ErrShort {
				t.Errorf("P25.3: %d bytes of the kind %d: %v, %d", n, c.Kind, got, e)
			}
		}
	}
	if b, _ := calls.Form(api.Call{Kind: api.CallExec, Path: "p", Argv: []string{"p"}}); string(b) != "\x01\x01\x00p\x01\x01\x00p\x00" {
		t.Errorf("P25.2: %x", b)
	}
}

func TestRead(t *testing.T) {
	zeros := strings.Repeat("\x00", 8)
	long := strings.Repeat("a", 257)
	for _, x := range []struct {
		name, b string
		n       int
		e       api.Errno
	}{
		{"fork", "\x02\xff", 1, api.OK}, {"exit, cut", "\x03\x00", 0, api.ErrShort}, {"nothing", "", 0, api.ErrShort}, {"kind 13", "\x0d", 0, api.ErrCall}, {"kind 0", "\x00\x00", 0, api.ErrCall}, {"kind 255", "\xff", 0, api.ErrCall}, {"open of nothing", "\x0a\x00\x00" + zeros, 0, api.ErrNoEnt}, {"open of nothing, cut", "\x0a\x00\x00" + zeros[1:], 0, api.ErrShort}, {"open with A 2", "\x0a\x01\x00a\x02" + zeros[1:], 0, api.ErrArg},
		{"load of 4097", "\x08" + zeros + "\x01\x10" + zeros[2:], 0, api.ErrBig}, {"store of 4097", "\x09" + zeros + "\x01\x10" + strings.Repeat("x", 4097), 0, api.ErrBig}, {"store of 4097, cut", "\x09" + zeros + "\x01\x10" + strings.Repeat("x", 4096), 0, api.ErrShort}, {"store of 4096", "\x09" + zeros + "\x00\x10" + strings.Repeat("x", 4097), 9 + 2 + 4096, api.OK}, {"store of 65535", "\x09" + zeros + "\xff\xff" + strings.Repeat("x", 65535), 0, api.ErrBig}, {"store of none", "\x09" + zeros + "\x00\x00", 11, api.OK},
		{"33 arguments", "\x01\x01\x00a\x21" + strings.Repeat("\x00\x00", 33) + "\x00", 0, api.ErrBig}, {"33 arguments, cut", "\x01\x01\x00a\x21" + strings.Repeat("\x00\x00", 33), 0, api.ErrShort}, {"32 arguments", "\x01\x01\x00a\x20" + strings.Repeat("\x00\x00", 32) + "\x00", 70, api.OK}, {"255 arguments", "\x01\x01\x00a\xff" + strings.Repeat("\x00\x00", 255) + "\x00", 0, api.ErrBig}, {"an argument of 257", "\x01\x01\x00a\x01\x01\x01" + long + "\x00", 0, api.ErrBig}, {"an argument with a nought", "\x01\x01\x00a\x01\x01\x00\x00\x00", 0, api.ErrArg}, {"a long path", "\x01\x01\x01" + long + "\x00\x00", 0, api.ErrLong}, {"a path with a nought", "\x01\x01\x00\x00\x00\x00", 0, api.ErrArg}, {"a variable with a nought", "\x01\x01\x00a\x00\x01\x01\x00\x00", 0, api.ErrArg},
		{"a path longer than all", "\x01\xff\xffa", 0, api.ErrShort}, {"half a length", "\x01\x01", 0, api.ErrShort},
	} {
		c, n, e := calls.Read([]byte(x.b))
		if n != x.n || e != x.e || e != api.OK && !reflect.DeepEqual(c, api.Call{}) {
			t.Errorf("P25.3: %s: %d, %d, want %d, %d", x.name, n, e, x.n, x.e)
		}
	}
	b := []byte("\x09" + zeros + "\x02\x00ab")
	c, _, _ := calls.Read(b)
	c.Bytes[0] = 'x'
	if b[11] != 'a' {
		t.Error("R3: the bytes are shared")
	}
}

func TestSteps(t *testing.T) {
	for _, x := range []struct {
		b    string
		pids []int
		at   int
		e    api.Errno
	}{
		{"\x01\x02\x05\x02", []int{1, 5}, 0, api.OK}, {"\x01\x02\x05", nil, 2, api.ErrShort}, {"", nil, 0, api.OK}, {"\x01", nil, 0, api.ErrShort}, {"\x00\x04\xff\x02", []int{0, 255}, 0, api.OK}, {"\x01\x02\x02\x0d", nil, 2, api.ErrCall}, {"\x01\x02\x02\x03\x00", nil, 2, api.ErrShort}, {"\x01\x0a\x00\x00" + strings.Repeat("\x00", 8), nil, 0, api.ErrNoEnt}, {"\x01\x02\x01\x02\x01\x02\x01\x00\x01\x02", nil, 6, api.ErrCall},
	} {
		l, e, at := calls.Steps([]byte(x.b))
		var pids []int
		for _, s := range l {
			pids = append(pids, s.Pid)
		}
		if !slices.Equal(pids, x.pids) || e != x.e || at != x.at {
			t.Errorf("P25.4: %x: %v, %d, %d", x.b, l, e, at)
		}
	}
}

func TestWhatFollows(t *testing.T) {
	r := rand.New(rand.NewSource(25))
	for range 400 {
		var b []byte
		var want []api.Step
		var ends []int
		for range r.Intn(6) {
			s := api.Step{Pid: r.Intn(256), Call: full()[r.Intn(12)]}
			if s.Call.A > 1 {
				s.Call.A = r.Uint64()
			}
			part, e := calls.Form(s.Call)
			if e != api.OK {
				t.Fatalf("P25.2: %d", e)
			}
			b = append(append(b, byte(s.Pid)), part...)
			want = append(want, s)
			ends = append(ends, len(b))
		}
		got, e, at := calls.Steps(b)
		if !reflect.DeepEqual(got, want) || e != api.OK || at != 0 {
			t.Fatalf("P25.4: %v, %d, want %v", got, e, want)
		}
		for cut := range len(b) {
			got, e, _ := calls.Steps(b[:cut])
			if whole := cut == 0 || slices.Contains(ends, cut); whole != (e == api.OK) || !whole && (e != api.ErrShort || len(got) != 0) {
				t.Fatalf("P25.4: cut at %d of %v: %d", cut, ends, e)
			}
		}
		if len(b) == 0 {
			continue
		}
		for range 20 {
			turned := bytes.Clone(b)
			turned[r.Intn(len(b))] = byte(r.Intn(256))
			c, n, e := calls.Read(turned)
			if e != api.OK {
				continue
			}
			if again, e := calls.Form(c); e != api.OK || !bytes.Equal(again, turned[:n]) {
				t.Fatalf("P25.2: Form of Read: %x of %x", again, turned[:n])
			}
		}
	}
}
