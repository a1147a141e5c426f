package shebang_test

import (
	"slices"
	"strings"
	"testing"

	"hostel/api"
	"hostel/shebang"
	"hostel/vfs"
)

func TestParse(t *testing.T) {
	letters := strings.Repeat("a", 128)
	for _, x := range []struct {
		b, interp, arg string
		is             bool
		e              api.Errno
	}{
		{"#!/p", "/p", "", true, 0}, {"#! \n", "", "", false, api.ErrExec}, {"#/p", "", "", false, 0}, {"#!" + letters, "", "", false, api.ErrExec}, {"#!" + letters[1:], letters[1:], "", true, 0}, {"#! /p  -x y \n", "/p", "-x y", true, 0},
		{"", "", "", false, 0}, {"#", "", "", false, 0}, {"#!", "", "", false, api.ErrExec}, {"!#/p", "", "", false, 0}, {" #!/p", "", "", false, 0}, {"\x7fELF", "", "", false, 0}, {"#!\n/p", "", "", false, api.ErrExec}, {"#!\t \t\n/p", "", "", false, api.ErrExec},
		{"#!/p\n/q r", "/p", "", true, 0}, {"#!\t/p\t\tx\ty z\t\n", "/p", "x\ty z", true, 0}, {"#!/p x", "/p", "x", true, 0}, {"#!/p \n", "/p", "", true, 0}, {"#!/p\r\n", "/p\r", "", true, 0}, {"#!p\vx y", "p\vx", "y", true, 0}, {"#!p\xc2\xa0x y", "p\xc2\xa0x", "y", true, 0}, {"#!/p\x00 x\x00", "/p\x00", "x\x00", true, 0}, {"#!#!/p", "#!/p", "", true, 0},
		{"#!" + letters[1:] + "\n" + letters + letters, letters[1:], "", true, 0}, {"#!" + letters + "\n", "", "", false, api.ErrExec}, {"#!" + strings.Repeat(" ", 128) + "\n", "", "", false, api.ErrExec}, {"#!" + strings.Repeat(" ", 127) + "\n", "", "", false, api.ErrExec}, {"#!" + strings.Repeat(" ", 126) + "a", "a", "", true, 0}, {"#!" + strings.Repeat(" ", 127) + "a", "", "", false, api.ErrExec},
	} {
		if interp, arg, is, e := shebang.Parse([]byte(x.b)); interp != x.interp || arg != x.arg || is != x.is || e != x.e {
			t.Errorf("P21.1: %q: %q, %q, %v, %d", x.b, interp, arg, is, e)
		}
	}
}

func TestArgv(t *testing.T) {
	for _, x := range []struct {
		interp, arg, path string
		argv              []string
		want              string
	}{
		{"/p", "-x y", "/s", []string{"s", "1"}, "/p|-x y|/s|1"}, {"/p", "", "/s", nil, "/p|/s"}, {"/p", "", "/s", []string{"s"}, "/p|/s"}, {"/p", "a", "/s", nil, "/p|a|/s"}, {"", "", "", []string{"", "", "z"}, "|||z"}, {"/p", " ", "/s", []string{"a", "b", "c"}, "/p| |/s|b|c"},
	} {
		room := append(slices.Clone(x.argv), "behind")
		if got := shebang.Argv(x.interp, x.arg, x.path, room[:len(x.argv)]); strings.Join(got, "|") != x.want {
			t.Errorf("P21.2: %q, %q, %q, %q: %q", x.interp, x.arg, x.path, x.argv, got)
		} else if got[0] = "x"; room[len(x.argv)] != "behind" || !slices.Equal(room[:len(x.argv)], x.argv) {
			t.Error("R3: what was handed in is turned")
		}
	}
}

func files(t *testing.T) *vfs.FS {
	t.Helper()
	file := func(path, data string, mode uint16) api.Entry {
		return api.Entry{Path: path, Kind: 1, Mode: mode, Uid: 7, Data: []byte(data)}
	}
	l := []api.Entry{
		file("/p", "\x7fELF", 0o755), file("/s", "#! /p  -x y \n", 0o755), file("/t", "#!/s", 0o755), file("/u", "#!/u", 0o755), file("/n", "\x7fELF", 0o644), // 1 to 5
		{Path: "/d", Kind: 2, Mode: 0o755}, {Path: "/l", Kind: 3, To: "s"}, {Path: "/loop", Kind: 3, To: "loop"}, // 6 to 8
		file("/s1", "#!/s0", 0o755), file("/s2", "#!s1 two", 0o755), file("/s3", "#!/s2", 0o755), file("/s4", "#!/s3", 0o755), file("/s5", "#!/s4", 0o755), file("/s0", "any", 0o111), // 9 to 14
		file("/to-n", "#!/n", 0o755), file("/to-none", "#!/none", 0o755), file("/empty", "#!\n", 0o755), file("/long", "#!"+strings.Repeat("/", 128), 0o755), file("/to-d", "#!/d", 0o755), file("/to-l", "#!l", 0o755), file("/own", "#!/p", 0o700), file("/name", "#!/"+strings.Repeat("a", 33), 0o755), file("/zero", "#!/a\x00", 0o755), file("/arg0", "#!/p \x00", 0o755), file("/nothing", "", 0o755), // 15 to 25
		{Path: "/p7", Kind: 2, Mode: 0o700, Uid: 7}, {Path: "/p7/p", Kind: 1, Mode: 0o755}, // 26, 27
		file("/bad5", "#!/bad4", 0o755), file("/bad4", "#!/bad3", 0o755), file("/bad3", "#!/bad2", 0o755), file("/bad2", "#!/empty2", 0o755), file("/empty2", "#! \n", 0o755),
	}
	fs, e, at := vfs.New(l)
	if e != api.OK {
		t.Fatal(e, at)
	}
	return fs
}

func TestChain(t *testing.T) {
	fs := files(t)
	for _, x := range []struct {
		euid uint32
		path string
		argv string
		ino  int
		last string
		out  string
		e    api.Errno
	}{
		{8, "/p", "p|1", 1, "/p", "p|1", 0}, {8, "/s", "s|1", 1, "/p", "/p|-x y|/s|1", 0}, {8, "/t", "t|1", 1, "/p", "/p|-x y|/s|/t|1", 0}, {8, "/u", "u", 0, "", "", api.ErrLoop}, {8, "/n", "n", 0, "", "", api.ErrAccess}, {8, "/", "a", 0, "", "", api.ErrAccess}, {8, "/x", "a", 0, "", "", api.ErrNoEnt},
		{8, "p", "p", 1, "p", "p", 0}, {8, "//p", "p", 1, "//p", "p", 0}, {8, "", "p", 0, "", "", api.ErrNoEnt}, {8, "/p/", "p", 0, "", "", api.ErrNotDir}, {8, "/p/x", "p", 0, "", "", api.ErrNotDir}, {8, "/d", "p", 0, "", "", api.ErrAccess}, {8, "/l", "l|2", 1, "/p", "/p|-x y|/l|2", 0}, {8, "/loop", "l", 0, "", "", api.ErrLoop}, {8, "/\x00", "l", 0, "", "", api.ErrArg}, {8, strings.Repeat("/", 201), "l", 0, "", "", api.ErrLong},
		{8, "/s1", "a|b", 14, "/s0", "/s0|/s1|b", 0}, {8, "/s2", "a|b", 14, "/s0", "/s0|s1|two|/s2|b", 0}, {8, "/s4", "a|b", 14, "/s0", "/s0|s1|two|/s2|/s3|/s4|b", 0}, {8, "/s5", "a|b", 0, "", "", api.ErrLoop},
		{8, "/to-n", "a", 0, "", "", api.ErrAccess}, {8, "/to-none", "a", 0, "", "", api.ErrNoEnt}, {8, "/empty", "a", 0, "", "", api.ErrExec}, {8, "/long", "a", 0, "", "", api.ErrExec}, {8, "/to-d", "a", 0, "", "", api.ErrAccess}, {8, "/to-l", "a|b", 1, "/p", "/p|-x y|l|/to-l|b", 0}, {8, "/own", "a", 0, "", "", api.ErrAccess}, {7, "/own", "a", 1, "/p", "/p|/own", 0}, {0, "/own", "a", 1, "/p", "/p|/own", 0}, {0, "/n", "a", 0, "", "", api.ErrAccess}, {8, "/name", "a", 0, "", "", api.ErrLong}, {8, "/zero", "a", 0, "", "", api.ErrArg}, {8, "/arg0", "a", 0, "", "", api.ErrArg}, {8, "/nothing", "a", 25, "/nothing", "a", 0}, {8, "/p7/p", "a", 0, "", "", api.ErrAccess}, {7, "/p7/p", "a", 27, "/p7/p", "a", 0},
		{8, "/bad4", "a", 0, "", "", api.ErrExec}, {8, "/bad5", "a", 0, "", "", api.ErrExec},
	} {
		ino, last, out, e := shebang.Chain(fs, api.Creds{Euid: x.euid, Gid: 9}, x.path, strings.Split(x.argv, "|"))
		if ino != x.ino || last != x.last || strings.Join(out, "|") != x.out || e != x.e {
			t.Errorf("P21.3: %d of %q: %d, %q, %q, %d", x.euid, x.path, ino, last, out, e)
		}
	}
	if ino, last, out, e := shebang.Chain(nil, api.Creds{}, "", []string{"\x00"}); ino != 0 || last != "" || len(out) != 0 || e != api.ErrNil {
		t.Errorf("P21.3: without files: %d", e)
	}
}

func TestArguments(t *testing.T) {
	fs := files(t)
	many := func(n int, s string) []string { return slices.Repeat([]string{s}, n) }
	for _, x := range []struct {
		path string
		argv []string
		n    int
		e    api.Errno
	}{
		{"/p", nil, 0, 0}, {"/s", nil, 3, 0}, {"/p", many(32, "a"), 32, 0}, {"/p", many(33, "a"), 0, api.ErrBig}, {"/s", many(30, "a"), 32, 0}, {"/s", many(31, "a"), 0, api.ErrBig}, {"/s", append([]string{"\x00"}, "a"), 4, 0}, {"/s", []string{"a", "\x00"}, 0, api.ErrArg}, {"/p", []string{"\x00"}, 0, api.ErrArg}, {"/p", []string{strings.Repeat("a", 257)}, 0, api.ErrBig}, {"/s", []string{strings.Repeat("a", 257)}, 3, 0}, {"/n", many(33, "a"), 0, api.ErrAccess}, {"/u", many(33, "a"), 0, api.ErrLoop},
	} {
		old := slices.Clone(x.argv)
		_, _, out, e := shebang.Chain(fs, api.Creds{Euid: 8}, x.path, x.argv)
		if len(out) != x.n || e != x.e {
			t.Errorf("P21.3: %s of %d arguments: %d, %d", x.path, len(x.argv), len(out), e)
		}
		if len(out) > 0 {
			out[len(out)-1] = "turned"
		}
		if !slices.Equal(old, x.argv) {
			t.Error("R3: the arguments are shared")
		}
	}
}

// TestWhatFollows: Chain of a script is Chain of its interpreter with Argv.
func TestWhatFollows(t *testing.T) {
	fs := files(t)
	c := api.Creds{Euid: 7}
	for ino := 1; fs.Path(ino) != ""; ino++ {
		path := fs.Path(ino)
		b, e := fs.Read(ino, 0, api.MaxFile)
		interp, arg, is, e2 := shebang.Parse(b)
		if e != api.OK || e2 != api.OK || !is {
			continue
		}
		a, la, oa, ea := shebang.Chain(fs, c, path, []string{"x", "y"})
		i, li, oi, ei := shebang.Chain(fs, c, interp, shebang.Argv(interp, arg, path, []string{"x", "y"}))
		if ea != api.ErrLoop && (a != i || la != li || !slices.Equal(oa, oi) || ea != ei) {
			t.Errorf("P21.3: %s: %d, %q, %q, %d", path, a, la, oa, ea)
		}
	}
}
