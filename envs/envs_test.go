package envs_test

import (
	"math/rand"
	"slices"
	"strings"
	"testing"

	"hostel/api"
	"hostel/envs"
)

var unsafeNames = []string{"LD_LIBRARY_PATH", "LD_PRELOAD", "LD_AUDIT", "LD_DEBUG", "LD_ORIGIN_PATH", "LD_PROFILE", "LD_USE_LOAD_BIAS", "GCONV_PATH", "TMPDIR"}

func many(n int, s string) []string {
	l := make([]string, n)
	for i := range l {
		l[i] = s
	}
	return l
}

func TestCheck(t *testing.T) {
	long := strings.Repeat("a", 256)
	for _, x := range []struct {
		l    []string
		want api.Errno
	}{
		{nil, api.OK}, {[]string{}, api.OK}, {[]string{""}, api.OK}, {[]string{"a", "=", "\xff"}, api.OK},
		{many(32, "a"), api.OK}, {many(33, "a"), api.ErrBig}, {many(33, ""), api.ErrBig}, {many(33, "\x00"), api.ErrBig}, {many(32, "\x00"), api.ErrArg}, {many(32, long), api.OK},
		{[]string{long}, api.OK}, {[]string{long + "a"}, api.ErrBig}, {[]string{"a", long + "a"}, api.ErrBig},
		{[]string{"\x00"}, api.ErrArg}, {[]string{"a", "b\x00c"}, api.ErrArg}, {[]string{"\x00", long + "a"}, api.ErrBig}, {[]string{long + "\x00"}, api.ErrBig},
	} {
		if e := envs.Check(x.l); e != x.want {
			t.Errorf("P3.1: Check of %d texts, %.20q: %d, want %d", len(x.l), x.l, e, x.want)
		}
	}
}

func TestSplit(t *testing.T) {
	for _, x := range []struct {
		s, name, value string
		ok             bool
	}{
		{"A=b=c", "A", "b=c", true}, {"=b", "", "", false}, {"A", "", "", false}, {"A=", "A", "", true}, {"", "", "", false}, {"=", "", "", false}, {"==", "", "", false}, {"=a=b", "", "", false}, {"\x00=\x00", "\x00", "\x00", true}, {"AB=cd", "AB", "cd", true}, {" =x", " ", "x", true},
	} {
		if name, value, ok := envs.Split(x.s); name != x.name || value != x.value || ok != x.ok {
			t.Errorf("P3.2: Split(%q): %q, %q, %v", x.s, name, value, ok)
		}
	}
}

func TestGet(t *testing.T) {
	env := []string{"B=1", "A=2", "A=3", "=x", "C", "D=", "AA=7"}
	for _, x := range []struct {
		name, value string
		ok          bool
	}{{"A", "2", true}, {"B", "1", true}, {"AA", "7", true}, {"D", "", true}, {"C", "", false}, {"", "", false}, {"A=", "", false}, {"x", "", false}, {"a", "", false}} {
		if value, ok := envs.Get(env, x.name); value != x.value || ok != x.ok {
			t.Errorf("P3.2: Get(%q): %q, %v", x.name, value, ok)
		}
	}
	if value, ok := envs.Get(nil, "A"); value != "" || ok {
		t.Errorf("P3.2: Get of none: %q, %v", value, ok)
	}
}

func TestSet(t *testing.T) {
	for _, x := range []struct {
		env         []string
		name, value string
		want        []string
		e           api.Errno
	}{
		{[]string{"A=1", "B=2", "A=3"}, "A", "9", []string{"A=9", "B=2"}, api.OK},
		{[]string{"A=1"}, "C", "9", []string{"A=1", "C=9"}, api.OK},
		{nil, "A", "", []string{"A="}, api.OK},
		{[]string{"A", "=A", "AB=1", "A=0"}, "A", "x=y", []string{"A", "=A", "AB=1", "A=x=y"}, api.OK},
		{[]string{"A=1", "A=1", "A=1"}, "A", "1", []string{"A=1"}, api.OK},
		{[]string{"A=1"}, "A=", "1", nil, api.ErrArg}, {[]string{"A=1"}, "", "1", nil, api.ErrArg}, {[]string{"A=1"}, "A\x00", "1", nil, api.ErrArg}, {[]string{"A=1"}, "A", "1\x00", nil, api.ErrArg}, {nil, "=", "", nil, api.ErrArg},
		{many(40, "\x00"), "A", "1", append(many(40, "\x00"), "A=1"), api.OK},
	} {
		old := slices.Clone(x.env)
		got, e := envs.Set(x.env, x.name, x.value)
		if !slices.Equal(got, x.want) || e != x.e {
			t.Errorf("P3.3: Set(%q, %q, %q): %q, %d", x.env, x.name, x.value, got, e)
		}
		if !slices.Equal(old, x.env) {
			t.Errorf("R3: Set turned what it was handed")
		}
	}
}

func TestUnsetAndScrub(t *testing.T) {
	for _, x := range []struct {
		env  []string
		name string
		want []string
	}{
		{[]string{"A=1", "B=2", "A=3"}, "A", []string{"B=2"}}, {[]string{"A=1"}, "B", []string{"A=1"}}, {[]string{"=x", "A", "B="}, "", []string{"=x", "A", "B="}}, {[]string{"=x", "A", "B="}, "B", []string{"=x", "A"}}, {[]string{"A", "A=", "AA=1"}, "A", []string{"A", "AA=1"}}, {nil, "A", nil}, {[]string{"A=b"}, "A=b", []string{"A=b"}},
	} {
		if got := envs.Unset(x.env, x.name); !slices.Equal(got, x.want) {
			t.Errorf("P3.4: Unset(%q, %q): %q", x.env, x.name, got)
		}
	}
	for _, name := range unsafeNames {
		env := []string{"PATH=/", name + "=x", name, "X" + name + "=x", name + "X=y", "=" + name, name + "=", strings.ToLower(name) + "=z"}
		want := []string{"PATH=/", name, "X" + name + "=x", name + "X=y", "=" + name, strings.ToLower(name) + "=z"}
		got := envs.Scrub(env)
		if !slices.Equal(got, want) {
			t.Errorf("P3.4: Scrub of %s: %q", name, got)
		}
		if again := envs.Scrub(got); !slices.Equal(again, want) {
			t.Errorf("P3.4: Scrub of Scrub: %q", again)
		}
	}
	for _, name := range []string{"LD_BIND_NOW", "LD_", "HOME", "PATH", "TMP", "LD_LIBRARY", "LD_PRELOAD64", "LOCPATH"} {
		if got := envs.Scrub([]string{name + "=1"}); len(got) != 1 {
			t.Errorf("P3.4: Scrub takes %s", name)
		}
	}
	if len(envs.Scrub(nil)) != 0 {
		t.Error("P3.4: Scrub of none")
	}
}

func TestAnswersAreNew(t *testing.T) {
	env := []string{"A=1", "B=2"}
	for i, got := range [][]string{envs.Unset(env, "C"), envs.Scrub(env)} {
		got[0] = "x"
		_ = append(got[:1], "y")
		if env[0] != "A=1" || env[1] != "B=2" {
			t.Errorf("R3: answer %d shares memory", i)
		}
	}
	room := []string{"A=1", "B=2"}
	if got, _ := envs.Set(room[:1], "C", "3"); room[1] != "B=2" || len(got) != 2 {
		t.Error("R3: the room behind was written")
	}
}

func TestList(t *testing.T) {
	for value, want := range map[string][]string{
		"": nil, "/a:/b": {"/a", "/b"}, ":/a:": {".", "/a", "."}, ":": {".", "."}, "a": {"a"}, "::": {".", ".", "."}, "a::b": {"a", ".", "b"}, "a;b": {"a;b"}, ".:a": {".", "a"}, "\x00:é": {"\x00", "é"},
	} {
		if got := envs.List(value); !slices.Equal(got, want) {
			t.Errorf("P3.5: List(%q): %q", value, got)
		}
	}
	if got := envs.List(strings.Repeat(":", 999)); len(got) != 1000 {
		t.Errorf("P3.5: %d pieces", len(got))
	}
}

func TestWhatFollows(t *testing.T) {
	r := rand.New(rand.NewSource(3))
	names := []string{"A", "B", "LD_DEBUG", "C"}
	for range 2000 {
		var env []string
		for range r.Intn(8) {
			env = append(env, []string{"", names[r.Intn(4)]}[min(1, r.Intn(5))]+[]string{"=", ""}[r.Intn(5)/4]+[]string{"x", "", "="}[r.Intn(3)])
		}
		name, value := names[r.Intn(4)], []string{"v", "", "=w"}[r.Intn(3)]
		set, _ := envs.Set(env, name, value)
		if got, ok := envs.Get(set, name); got != value || !ok {
			t.Fatalf("P3.3: Get of Set: %q", got)
		}
		if again, _ := envs.Set(set, name, value); !slices.Equal(again, set) {
			t.Fatalf("P3.3: Set again: %q", again)
		}
		if _, ok := envs.Get(envs.Unset(env, name), name); ok {
			t.Fatalf("P3.4: Unset leaves one")
		}
		for _, other := range names {
			a, okA := envs.Get(env, other)
			b, okB := envs.Get(set, other)
			if other != name && (a != b || okA != okB) {
				t.Fatalf("P3.3: another name's value")
			}
		}
	}
}
