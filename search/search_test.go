package search_test

import (
	"slices"
	"strings"
	"testing"

	"hostel/api"
	"hostel/search"
	"hostel/vfs"
)

func TestDirs(t *testing.T) {
	for _, x := range []struct {
		run, library string
		secure       bool
		want         string
	}{
		{"/a:", "/b", false, "/a . /b /lib /usr/lib"}, {"/a:", "/b", true, "/a . /lib /usr/lib"}, {"", "", false, "/lib /usr/lib"}, {"", "", true, "/lib /usr/lib"}, {"", "/b:c", false, "/b c /lib /usr/lib"}, {"", "/b:c", true, "/lib /usr/lib"}, {":", ":", false, ". . . . /lib /usr/lib"}, {"/lib", "/lib", false, "/lib /lib /lib /usr/lib"}, {"/a::/b", "", false, "/a . /b /lib /usr/lib"},
	} {
		if got := search.Dirs(x.run, x.library, x.secure); strings.Join(got, " ") != x.want {
			t.Errorf("P15.1: Dirs(%q, %q, %v): %q", x.run, x.library, x.secure, got)
		}
	}
	got := search.Dirs("/a", "/b", false)
	got[0], got[3] = "x", "y"
	if again := search.Dirs("/a", "/b", false); !slices.Equal(again, []string{"/a", "/b", "/lib", "/usr/lib"}) {
		t.Errorf("R3: %q", again)
	}
}

func TestPaths(t *testing.T) {
	for _, x := range []struct {
		name, run, library string
		secure             bool
		want               string
	}{
		{"x", "/a", "", false, "/a/x /lib/x /usr/lib/x"}, {"./x", "/a", "/b", false, "./x"}, {"/x", "/a", "", false, "/x"}, {"a/", "/a", "", true, "a/"}, {"/", "", "", false, "/"}, {"x", "/a/", "b", false, "/a/x b/x /lib/x /usr/lib/x"}, {"x", "", "b", true, "/lib/x /usr/lib/x"}, {"x", ":", "", false, "./x ./x /lib/x /usr/lib/x"}, {"", "", "", false, "/lib/ /usr/lib/"}, {"x y", "", "", false, "/lib/x y /usr/lib/x y"},
	} {
		if got := search.Paths(x.name, x.run, x.library, x.secure); strings.Join(got, " ") != x.want {
			t.Errorf("P15.2: Paths(%q, %q, %q, %v): %q", x.name, x.run, x.library, x.secure, got)
		}
	}
}

func TestFind(t *testing.T) {
	fs, e, _ := vfs.New([]api.Entry{
		{Path: "/d", Kind: 2, Mode: 0o755}, {Path: "/f", Kind: 1, Mode: 0o644}, {Path: "/own", Kind: 1, Mode: 0o400, Uid: 7}, {Path: "/d/g", Kind: 1, Mode: 0o604},
		{Path: "/l", Kind: 3, To: "d/g"}, {Path: "/ld", Kind: 3, To: "d"}, {Path: "/p", Kind: 2, Mode: 0o700, Uid: 7}, {Path: "/p/f", Kind: 1, Mode: 0o644}, {Path: "/x", Kind: 1, Mode: 0o711}, {Path: "/loop", Kind: 3, To: "loop"},
	})
	if e != api.OK {
		t.Fatal(e)
	}
	for _, x := range []struct {
		euid uint32
		cwd  int
		l    string
		ino  int
		path string
		e    api.Errno
	}{
		{8, 0, "/no /d /f", 2, "/f", api.OK}, {8, 0, "", 0, "", api.ErrLibAcc}, {8, 0, "/no /d", 0, "", api.ErrLibAcc}, {8, 0, "/own /f", 2, "/f", api.OK}, {7, 0, "/own /f", 3, "/own", api.OK}, {0, 0, "/own /f", 3, "/own", api.OK}, {8, 0, "/f /l", 2, "/f", api.OK}, {8, 0, "/l /f", 4, "/l", api.OK}, {8, 0, "/ld /l", 4, "/l", api.OK},
		{8, 0, "/ld/ /f/ /loop /x //f", 2, "//f", api.OK}, {8, 0, "/p/f /f", 2, "/f", api.OK}, {7, 0, "/p/f /f", 8, "/p/f", api.OK}, {8, 1, "g", 4, "g", api.OK}, {8, 0, "g", 0, "", api.ErrLibAcc}, {8, 1, "../f g", 2, "../f", api.OK}, {8, 0, "d/g", 4, "d/g", api.OK},
		{8, 2, "/f", 0, "", api.ErrLibAcc}, {8, -1, "/f", 0, "", api.ErrLibAcc}, {8, 99, "/f", 0, "", api.ErrLibAcc}, {8, 0, "/" + strings.Repeat("a", 33) + " /f", 2, "/f", api.OK}, {8, 0, "/x", 0, "", api.ErrLibAcc}, {0, 0, "/x", 9, "/x", api.OK},
	} {
		ino, path, e := search.Find(fs, api.Creds{Euid: x.euid, Gid: 5}, x.cwd, strings.Fields(x.l))
		if ino != x.ino || path != x.path || e != x.e {
			t.Errorf("P15.3: Find of %d from %d of %s: %d, %q, %d", x.euid, x.cwd, x.l, ino, path, e)
		}
	}
	if ino, path, e := search.Find(fs, api.Creds{}, 0, []string{"", "/f\x00", "/f"}); ino != 2 || path != "/f" || e != api.OK {
		t.Errorf("P15.3: behind what is no path: %d, %q, %d", ino, path, e)
	}
	if ino, path, e := search.Find(nil, api.Creds{}, 0, []string{"/f"}); ino != 0 || path != "" || e != api.ErrNil {
		t.Errorf("P15.3: of no files: %d, %q, %d", ino, path, e)
	}
}
