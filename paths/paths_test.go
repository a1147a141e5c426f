package paths_test

import (
	"math/rand"
	"slices"
	"strings"
	"testing"

	"hostel/api"
	"hostel/paths"
)

func letters(n int) string { return strings.Repeat("a", n) }

// long is a path of n bytes whose pieces are short enough.
func long(n int) string { return strings.Repeat("/"+letters(19), n/20+1)[:n] }

func TestCheck(t *testing.T) {
	for p, want := range map[string]api.Errno{
		"": api.ErrNoEnt, "a": api.OK, "/": api.OK, ".": api.OK, "..": api.OK, "//": api.OK, "a b\xff\n": api.OK,
		"a\x00": api.ErrArg, "\x00": api.ErrArg, "a/\x00/b": api.ErrArg,
		letters(32): api.OK, letters(33): api.ErrLong, "/" + letters(32) + "/": api.OK,
		"/" + letters(33) + "/a": api.ErrLong, "a/" + letters(33): api.ErrLong, letters(33) + "/a": api.ErrLong,
		long(200): api.OK, long(201): api.ErrLong, letters(201): api.ErrLong, strings.Repeat("/", 200): api.OK, strings.Repeat("/", 201): api.ErrLong,
		"\x00" + letters(200): api.ErrArg, letters(33) + "\x00": api.ErrArg, long(300) + "\x00": api.ErrArg,
		strings.Repeat("é", 16): api.OK, strings.Repeat("é", 16) + "a": api.ErrLong, strings.Repeat("\xff", 33): api.ErrLong, strings.Repeat("\xff", 32): api.OK,
	} {
		if e := paths.Check(p); e != want {
			t.Errorf("P2.1: Check(%q): %d, want %d", p, e, want)
		}
		if parts, root, e := paths.Parts(p); e != want || e != api.OK && (len(parts) > 0 || root) {
			t.Errorf("P2.2: Parts(%q): %q, %v, %d", p, parts, root, e)
		}
	}
}

func TestParts(t *testing.T) {
	for p, want := range map[string]string{
		"/a//b/./..": "/ a b ..", ".": "", "a/": "a", "/": "/", "//": "/", "/.": "/", "./a": "a", "../a": ".. a", "...": "...", "/a/.b/..c": "/ a .b ..c", "a": "a", "/a/": "/ a", "a\xffb/é": "a\xffb é",
		"\xe2/b": "\xe2 b", "a/././b/../": "a b ..",
	} {
		parts, root, e := paths.Parts(p)
		var told []string
		if root {
			told = append(told, "/")
		}
		if got := strings.Join(append(told, parts...), " "); got != want || e != api.OK {
			t.Errorf("P2.2: Parts(%q): %q, %d", p, got, e)
		}
	}
}

func TestJoin(t *testing.T) {
	for _, x := range [][3]string{
		{"/a", "b", "/a/b"}, {"/a/", "b", "/a/b"}, {"a", "/b", "/b"}, {"", "b", "b"}, {"a", "", "a/"}, {"a/", "", "a/"}, {"", "", ""}, {"/", "b", "/b"}, {"//", "b", "//b"}, {"a", "/", "/"}, {"a", "b/", "a/b/"}, {"\x00", "c", "\x00/c"}, {".", "./x", "././x"},
	} {
		if got := paths.Join(x[0], x[1]); got != x[2] {
			t.Errorf("P2.3: Join(%q, %q): %q", x[0], x[1], got)
		}
	}
}

func TestBaseDirTail(t *testing.T) {
	for _, x := range []struct {
		p, base, dir string
		tail         bool
	}{
		{"/a/b", "b", "/a", false}, {"a", "a", ".", false}, {"/a", "a", "/", false}, {"a/", "", "a", true}, {"/", "", "/", true}, {"", "", ".", false}, {"//", "", "/", true}, {"//a", "a", "/", false}, {"a//b", "b", "a/", false}, {"a/b/c", "c", "a/b", false}, {"/a/b/", "", "/a/b", true}, {"a\x00/\xff", "\xff", "a\x00", false}, {"...", "...", ".", false},
	} {
		if got := paths.Base(x.p); got != x.base {
			t.Errorf("P2.4: Base(%q): %q", x.p, got)
		}
		if got := paths.Dir(x.p); got != x.dir {
			t.Errorf("P2.4: Dir(%q): %q", x.p, got)
		}
		if got := paths.Tail(x.p); got != x.tail {
			t.Errorf("P2.4: Tail(%q): %v", x.p, got)
		}
	}
}

func some(r *rand.Rand) string {
	var b strings.Builder
	for range r.Intn(12) {
		b.WriteString([]string{"/", "/", ".", "a", "bc", "é", "\xff"}[r.Intn(7)])
	}
	return b.String()
}

func TestWhatFollows(t *testing.T) {
	r := rand.New(rand.NewSource(2))
	for range 5000 {
		dir, p := some(r), some(r)
		first, root, e := paths.Parts(dir)
		second, absolute, e2 := paths.Parts(p)
		both, same, e3 := paths.Parts(paths.Join(dir, p))
		if e == api.OK && e2 == api.OK && e3 == api.OK && !absolute && (!slices.Equal(both, append(first, second...)) || same != root) {
			t.Errorf("P2.3: %q, %q: %q", dir, p, both)
		}
		again, rooted, e4 := paths.Parts(paths.Join(paths.Dir(p), paths.Base(p)))
		if e2 == api.OK && e4 == api.OK && (!slices.Equal(again, second) || rooted != absolute) {
			t.Errorf("P2.4: %q: %q", p, again)
		}
		if strings.Contains(paths.Base(p), "/") {
			t.Errorf("P2.4: Base(%q) has a slash", p)
		}
		if parts, _, e := paths.Parts(strings.Join(second, "/")); len(second) > 0 && (e != api.OK || !slices.Equal(parts, second)) {
			t.Errorf("P2.2: parts of parts of %q: %q", p, parts)
		}
	}
}
