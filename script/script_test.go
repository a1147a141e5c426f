package script_test

import (
	"math/rand"
	"reflect"
	"slices"
	"strconv"
	"strings"
	"testing"

	"hostel/api"
	"hostel/kernel"
	"hostel/maker"
	"hostel/script"
)

const top = 1<<64 - 1

func TestQuote(t *testing.T) {
	for _, x := range [][2]string{
		{"a\"\né\xff", `"a\"\u{a}\u{e9}\xff"`}, {"", `""`}, {`\`, `"\\"`}, {" ~", `" ~"`}, {"\x1f\x7f", `"\u{1f}\u{7f}"`}, {"\x00", `"\u{0}"`}, {"\u0080", `"\u{80}"`}, {"\x80", `"\x80"`}, {"\xc3", `"\xc3"`}, {"\xc3\xa9\xa9", `"\u{e9}\xa9"`}, {"\ufffd", `"\u{fffd}"`}, {"\U0010ffff", `"\u{10ffff}"`}, {"\xf4\x90\x80\x80", `"\xf4\x90\x80\x80"`}, {"\xed\xa0\x80", `"\xed\xa0\x80"`}, {"\xc0\x80", `"\xc0\x80"`}, {"\xe0\x80\x80", `"\xe0\x80\x80"`}, {"\xe2\x82", `"\xe2\x82"`}, {"\xe2\x82\xac", `"\u{20ac}"`}, {"\xe2\x82a", `"\xe2\x82a"`}, {"𝄞x", `"\u{1d11e}x"`}, {"'`$[]", "\"'`$[]\""}, {"\xfe\x0a", `"\xfe\u{a}"`}, {"\x0f\x10", `"\u{f}\u{10}"`}, {`\x41`, `"\\x41"`},
	} {
		if got := script.Quote(x[0]); got != x[1] {
			t.Errorf("P28.1: Quote(%q): %s, want %s", x[0], got, x[1])
		}
		if got, e := script.Unquote(x[1]); got != x[0] || e != api.OK {
			t.Errorf("P28.1: Unquote(%s): %q, %d", x[1], got, e)
		}
	}
}

func TestUnquoteRefuses(t *testing.T) {
	for _, s := range []string{
		`"\u{0a}"`, `"\u{61}"`, `"`, ``, `a`, `"a`, `a"`, `""a`, `a""`, `"a"b"`, `"""`, `"\"`, `"\`, `"\\\"`, `"\a"`, `"\n"`, `"\u{}"`, `"\u{A}"`, `"\u{a"`, `"\u{g}"`, `"\u{110000}"`, `"\u{d800}"`, `"\u{dfff}"`, `"\u{ffffffffffffffffffff}"`, `"\u{100000000000000061}"`, `"\u0a"`, `"\u"`, `"\u{22}"`, `"\u{5c}"`, `"\u{20}"`, `"\u{7e}"`, `"\x"`, `"\xf"`, `"\xFF"`, `"\xfg"`, `"\x61"`, `"\x00"`, `"\xc3\xa9"`, "\"\n\"", "\"\x7f\"", "\"é\"", "\"\xff\"", `"\u{ e9}"`, `"\u{e9}`, `"\u{-1}"`, `"\u{+a}"`, ` ""`, `"" `, `'a'`, `"\u{fffd}\u{d800}"`, `"\u{0}\u{00}"`,
	} {
		if got, e := script.Unquote(s); got != "" || e != api.ErrForm {
			t.Errorf("P28.1: Unquote(%s): %q, %d", s, got, e)
		}
	}
}

var steps = []struct {
	s    api.Step
	line string
}{
	{api.Step{Pid: 1, Call: api.Call{Kind: api.CallExec, Path: "/a", Argv: []string{"x", "y"}}}, `1 exec "/a" ["x" "y"] []`},
	{api.Step{Pid: 0, Call: api.Call{Kind: api.CallExec, Path: "\n", Argv: []string{"", "a b", `"`, `]`}, Env: []string{"\xff= ["}}}, `0 exec "\u{a}" ["" "a b" "\"" "]"] ["\xff= ["]`},
	{api.Step{Pid: 99, Call: api.Call{Kind: api.CallFork}}, `99 fork`}, {api.Step{Pid: 10, Call: api.Call{Kind: api.CallExit, A: top}}, `10 exit 18446744073709551615`}, {api.Step{Pid: 2, Call: api.Call{Kind: api.CallWait}}, `2 wait`}, {api.Step{Pid: 3, Call: api.Call{Kind: api.CallMap, A: 1, B: 2, C: 3, D: 4, E: 5}}, `3 map 1 2 3 4 5`}, {api.Step{Pid: 3, Call: api.Call{Kind: api.CallUnmap, A: 10, B: 0}}, `3 unmap 10 0`}, {api.Step{Pid: 3, Call: api.Call{Kind: api.CallProtect, A: 1, B: 2, C: 3}}, `3 protect 1 2 3`}, {api.Step{Pid: 3, Call: api.Call{Kind: api.CallLoad, A: 1, B: 4096}}, `3 load 1 4096`}, {api.Step{Pid: 3, Call: api.Call{Kind: api.CallStore, A: 7, Bytes: []byte("a\x00")}}, `3 store 7 "a\u{0}"`}, {api.Step{Pid: 3, Call: api.Call{Kind: api.CallStore}}, `3 store 0 ""`}, {api.Step{Pid: 3, Call: api.Call{Kind: api.CallOpen, Path: "a b", A: 1}}, `3 open "a b" 1`}, {api.Step{Pid: 3, Call: api.Call{Kind: api.CallClose, A: 99}}, `3 close 99`}, {api.Step{Pid: 3, Call: api.Call{Kind: api.CallRead, A: 4, B: 5}}, `3 read 4 5`},
}

func TestFormAndRead(t *testing.T) {
	for _, x := range steps {
		if got, e := script.Form(x.s); got != x.line || e != api.OK {
			t.Errorf("P28.2: Form(%+v): %s, %d, want %s", x.s, got, e, x.line)
		}
		got, e := script.Read(x.line)
		if !reflect.DeepEqual(got, x.s) || e != api.OK {
			t.Errorf("P28.2: Read(%s): %+v, %d", x.line, got, e)
		}
	}
	for _, x := range []struct {
		s api.Step
		e api.Errno
	}{
		{api.Step{Pid: -1, Call: api.Call{Kind: 99}}, api.ErrArg}, {api.Step{Pid: 100, Call: api.Call{Kind: api.CallFork}}, api.ErrArg}, {api.Step{Pid: -1 << 63, Call: api.Call{Kind: api.CallFork}}, api.ErrArg}, {api.Step{Pid: 1}, api.ErrCall}, {api.Step{Pid: 1, Call: api.Call{Kind: 13}}, api.ErrCall}, {api.Step{Pid: 1, Call: api.Call{Kind: api.CallFork, A: 1}}, api.ErrArg}, {api.Step{Pid: 1, Call: api.Call{Kind: api.CallLoad, B: 4097}}, api.ErrBig}, {api.Step{Pid: 1, Call: api.Call{Kind: api.CallOpen}}, api.ErrNoEnt},
	} {
		if got, e := script.Form(x.s); got != "" || e != x.e {
			t.Errorf("P28.2: Form(%+v): %q, %d, want %d", x.s, got, e, x.e)
		}
	}
}

func TestReadRefuses(t *testing.T) {
	for _, line := range []string{
		``, ` `, `1`, `fork`, `1 `, `01 fork`, `1 fork `, ` 1 fork`, `1  fork`, `1 fork 0`, `1 exit -1`, `1 exit +1`, `1 exit 01`, `1 exit`, `1 exit 1 2`, `1 exit 18446744073709551616`, `1 exit 1_0`, `1 exit 0x1`, `1 exit "1"`, `100 fork`, `-1 fork`, `18446744073709551617 fork`, `4294967297 fork`, `1 FORK`, `1 forks`, `1 "fork"`, `"1" fork`, `1 2`, `1 2 3`, "1\tfork", "1 fork\n", "1 fork\r", `# 1 fork`, `1 [] []`,
		`1 exec "/a" ["x" "y"]`, `1 exec "/a" ["x" "y"] [] `, `1 exec "/a" ["x"  "y"] []`, `1 exec "/a" ["x""y"] []`, `1 exec "/a" [ "x"] []`, `1 exec "/a" ["x" ] []`, `1 exec "/a" ["x" []`, `1 exec "/a" ["x",  "y"] []`, `1 exec "/a" [][]`, `1 exec /a [] []`, `1 exec "/a" "x" []`, `1 exec "/a" [x] []`, `1 exec "/a" [1] []`, `1 exec "/a" [ ] []`, `1 exec [] "/a" []`, `1 exec "" [] []`, `1 exec "/a" [] [`, `1 exec "/a" [] ]`, `1 exec "/a" [["x"]] []`, `1 exec "\x00" [] []`,
		`1 open "a" 2`, `1 open "a"`, `1 open 1 "a"`, `1 open "a 1`, `1 open "a" "1"`, `1 open "a"1`, `1 open "\u{61}" 1`, `1 load 0 4097`, `1 store 0 "` + strings.Repeat("a", 4097) + `"`, `1 store "a" 0`, `1 store 0 [`, `1 map 1 2 3 4`, `1 map 1 2 3 4 5 6`, `1 map 1 2 3 4 x`,
	} {
		if got, e := script.Read(line); !reflect.DeepEqual(got, api.Step{}) || e != api.ErrForm {
			t.Errorf("P28.2: Read(%q): %+v, %d", line, got, e)
		}
	}
}

func TestTold(t *testing.T) {
	for _, x := range []struct {
		r    api.Result
		want string
	}{
		{api.Result{Err: api.ErrPid}, "error 18"}, {api.Result{Value: 3, Bytes: []byte{7}}, `ok 3 "\u{7}"`}, {api.Result{}, `ok 0 ""`}, {api.Result{Value: top, Bytes: []byte("a\xff\"")}, `ok 18446744073709551615 "a\xff\""`}, {api.Result{Err: -5, Value: 7}, "error -5"}, {api.Result{Err: 99, Bytes: []byte("a")}, "error 99"}, {api.Result{Err: -1 << 63}, "error -9223372036854775808"},
	} {
		if got := script.Told(x.r); got != x.want {
			t.Errorf("P28.3: Told(%+v): %s, want %s", x.r, got, x.want)
		}
	}
}

func config() api.Config {
	a, _ := maker.Make(api.Spec{Type: 2, Entry: 0x410000, Text: []byte{0xc3}})
	return api.Config{Frames: 200, Entries: []api.Entry{{Path: "/bin", Kind: 2, Mode: 0o755}, {Path: "/bin/a", Kind: 1, Mode: 0o755, Data: a}}, Path: "/bin/a", Creds: api.Creds{Euid: 7}}
}

// whole is the document's ten examples as a script, with what is told.
const whole = `# the ten examples
1 map 0 1 6 0 0
1 store 4294967296 "\u{7}"
1 fork

2 load 4294967296 1
2 store 4294967296 "\u{9}"
1 load 4294967296 1
2 exec "/bin/a" ["a"] []
2 load 4294967296 1
2 exec "/nowhere" [] []
2 exec "/bin" [] []
#
2 exit 5
1 wait
1 wait
1 open "/bin/a" 0
1 read 0 4
1 unmap 1 1
1 load 0 1
3 fork
1 exit 0
1 wait
`

var answers = []string{`ok 4294967296 ""`, `ok 0 ""`, `ok 2 ""`, `ok 0 "\u{7}"`, `ok 0 ""`, `ok 0 "\u{7}"`, `ok 0 ""`, `error 6`, `error 3`, `error 5`, `ok 0 ""`, `ok 2 "\u{5}\u{0}\u{0}\u{0}\u{0}\u{0}\u{0}\u{0}"`, `error 16`, `ok 0 ""`, `ok 0 "\u{7f}ELF"`, `error 1`, `error 6`, `error 18`, `ok 0 ""`, `error 18`}

func TestRun(t *testing.T) {
	var want strings.Builder
	n := 0
	for _, line := range strings.Split(whole, "\n") {
		if line != "" && line[0] != '#' {
			want.WriteString("> " + line + "\n= " + answers[n] + "\n")
			n++
		}
	}
	for _, text := range []string{whole, strings.TrimSuffix(whole, "\n"), whole + "\n\n", "\n" + whole, whole + "# end"} {
		got, at, e := script.Run(config(), text)
		if got != want.String() || at != 0 || e != api.OK {
			t.Errorf("P28.4: %s, %d, %d, want %s", got, at, e, want.String())
		}
	}
	for _, text := range []string{"", "\n", "\n\n#x\n", "#"} {
		if got, at, e := script.Run(config(), text); got != "" || at != 0 || e != api.OK {
			t.Errorf("P28.4: %q: %q, %d, %d", text, got, at, e)
		}
	}
}

func TestRunRefuses(t *testing.T) {
	bad := config()
	bad.Path = "/nowhere"
	for _, x := range []struct {
		c    api.Config
		text string
		at   int
		e    api.Errno
	}{
		{config(), "fork", 0, api.ErrForm}, {config(), "1 fork\n#\n\n1 fork \n2 x", 3, api.ErrForm}, {config(), "1 fork\n ", 1, api.ErrForm}, {config(), " #", 0, api.ErrForm}, {config(), "1 fork\r\n", 0, api.ErrForm}, {bad, "1 fork\nx", 1, api.ErrForm}, {bad, "1 fork", -1, api.ErrNoEnt}, {bad, "", -1, api.ErrNoEnt}, {api.Config{}, "", -1, api.ErrArg}, {config(), "1 load 0 4097\n", 0, api.ErrForm}, {config(), "\n\n\nx", 3, api.ErrForm}, {config(), "1 fork\x00", 0, api.ErrForm},
	} {
		if got, at, e := script.Run(x.c, x.text); got != "" || at != x.at || e != x.e {
			t.Errorf("P28.4: %q: %q, %d, %d, want %d, %d", x.text, got, at, e, x.at, x.e)
		}
	}
}

// TestRunIsTheKernel: what is told line by line is what the kernel answers to the steps (W1).
func TestRunIsTheKernel(t *testing.T) {
	r := rand.New(rand.NewSource(28))
	for range 30 {
		var text strings.Builder
		var l []api.Step
		for range 40 {
			s := steps[r.Intn(len(steps))].s
			s.Pid = 1 + r.Intn(3)
			if s.Call.Kind == api.CallExit && s.Pid == 1 {
				continue
			}
			line, _ := script.Form(s)
			text.WriteString(line + "\n")
			l = append(l, s)
		}
		got, _, e := script.Run(config(), text.String())
		k, _ := kernel.New(config())
		var want strings.Builder
		for i, x := range k.Run(l) {
			line, _ := script.Form(l[i])
			want.WriteString("> " + line + "\n= " + script.Told(x) + "\n")
		}
		if got != want.String() || e != api.OK {
			t.Fatalf("P28.4: %s, %d, want %s", got, e, want.String())
		}
		more, _, e := script.Run(config(), text.String()+"1 fork\n1 load 4194304 4\n")
		if e != api.OK || !strings.HasPrefix(more, got) || len(more) <= len(got) {
			t.Fatalf("P28.5: further lines turn what is told ahead")
		}
	}
}

func TestUndone(t *testing.T) {
	r := rand.New(rand.NewSource(281))
	pieces := []string{"a", "\"", "\\", "é", "\xff", "\xc3", "\n", "\x00", "u{61}", "x41", "\ufffd", "𝄞", " ", "]", "\xf0\x9d"}
	some := func() string {
		var b strings.Builder
		for range r.Intn(9) {
			b.WriteString(pieces[r.Intn(len(pieces))])
		}
		return b.String()
	}
	for range 5000 {
		s := some()
		q := script.Quote(s)
		if got, e := script.Unquote(q); got != s || e != api.OK {
			t.Fatalf("P28.5: %q: %s, %q, %d", s, q, got, e)
		}
		if i := strings.IndexFunc(q, func(r rune) bool { return r < 32 || r > 126 }); i >= 0 {
			t.Fatalf("P28.5: %q: %s", s, q)
		}
		turned := []byte(q)
		turned[r.Intn(len(turned))] = byte(r.Intn(256))
		if got, e := script.Unquote(string(turned)); e == api.OK && script.Quote(got) != string(turned) || e != api.OK && got != "" {
			t.Fatalf("P28.1: %q: %q, %d", turned, got, e)
		}
		call := api.Call{Kind: uint8(r.Intn(14)), A: uint64(r.Intn(3)), B: uint64(r.Intn(2) * r.Intn(5000)), Path: []string{"", some()}[r.Intn(2)], Bytes: []byte(some())}
		if call.Kind == api.CallExec {
			call = api.Call{Kind: api.CallExec, Path: "p" + some(), Argv: []string{some(), some()}, Env: []string{some()}}
		}
		step := api.Step{Pid: r.Intn(101), Call: call}
		line, e := script.Form(step)
		if e != api.OK {
			continue
		}
		again, e := script.Read(line)
		if len(again.Call.Bytes) == 0 {
			again.Call.Bytes = step.Call.Bytes[:0]
		}
		if e != api.OK || !reflect.DeepEqual(again, step) {
			t.Fatalf("P28.5: %s: %+v, %d, want %+v", line, again, e, step)
		}
	}
}

// TestNoPanic turns lines by chance: what is read is formed again.
func TestNoPanic(t *testing.T) {
	r := rand.New(rand.NewSource(282))
	for range 40000 {
		b := []byte(steps[r.Intn(len(steps))].line)
		for range 1 + r.Intn(3) {
			at := r.Intn(len(b))
			switch r.Intn(3) {
			case 0:
				b[at] = "\"[] \\u{x019-\xff"[r.Intn(13)]
			case 1:
				b = slices.Insert(b, at, "\"[] \\u{x019-\xff"[r.Intn(13)])
			default:
				b = append(slices.Delete(b, at, at+1), ' ')
			}
		}
		line := string(b)
		s, e := script.Read(line)
		if e != api.OK {
			if e != api.ErrForm || !reflect.DeepEqual(s, api.Step{}) {
				t.Fatalf("P28.2: %q: %d", line, e)
			}
			continue
		}
		if again, e := script.Form(s); again != line || e != api.OK {
			t.Fatalf("P28.5: %q: %q, %s", line, again, strconv.Itoa(int(e)))
		}
	}
}
