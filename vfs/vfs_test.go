package vfs_test

import (
	"bytes"
	"math/rand"
	"strconv"
	"strings"
	"testing"

	"hostel/api"
	"hostel/paths"
	"hostel/vfs"
)

func dir(path string, mode uint16, uid uint32) api.Entry {
	return api.Entry{Path: path, Kind: api.NodeDir, Mode: mode, Uid: uid}
}

func file(path, data string) api.Entry {
	return api.Entry{Path: path, Kind: api.NodeFile, Mode: 0o644, Uid: 7, Gid: 8, Data: []byte(data)}
}

func link(path, to string) api.Entry {
	return api.Entry{Path: path, Kind: api.NodeLink, Mode: 0o777, To: to}
}

func user(euid uint32) api.Creds { return api.Creds{Uid: 99, Euid: euid, Suid: 99, Gid: 99} }

func made(t *testing.T, l ...api.Entry) *vfs.FS {
	t.Helper()
	f, e, at := vfs.New(l)
	if f == nil || e != api.OK || at != 0 {
		t.Fatalf("P6.1: New: %d, %d", e, at)
	}
	return f
}

// example is the file system of the chapter's examples: 1 /a, 2 /a/f, 3 /l, 4 /m, 5 /d.
func example(t *testing.T) *vfs.FS {
	return made(t, dir("/a", 0o700, 7), file("/a/f", "\x01\x02\x03"), link("/l", "a/f"), link("/m", "/m"), link("/d", "a/"))
}

func TestNewRefuses(t *testing.T) {
	big := file("/f", strings.Repeat("x", 65537))
	with := func(x api.Entry, turn func(x *api.Entry)) api.Entry { turn(&x); return x }
	bad := func(turn func(x *api.Entry)) []api.Entry { return []api.Entry{with(file("/g", "x"), turn)} }
	for name, x := range map[string]struct {
		l  []api.Entry
		e  api.Errno
		at int
	}{
		"65 entries":           {make([]api.Entry, 65), api.ErrMany, -1},
		"kind 0":               {bad(func(x *api.Entry) { x.Kind = 0 }), api.ErrArg, 0},
		"kind 4":               {bad(func(x *api.Entry) { x.Kind = 4 }), api.ErrArg, 0},
		"mode 0o1000":          {bad(func(x *api.Entry) { x.Mode = 0o1000 }), api.ErrArg, 0},
		"mode 0o2000":          {bad(func(x *api.Entry) { x.Mode = 0o2755 }), api.ErrArg, 0},
		"mode 0x8000":          {bad(func(x *api.Entry) { x.Mode = 0x8000 }), api.ErrArg, 0},
		"no path":              {bad(func(x *api.Entry) { x.Path = "" }), api.ErrArg, 0},
		"a byte 0":             {bad(func(x *api.Entry) { x.Path = "/a\x00" }), api.ErrArg, 0},
		"a long name":          {bad(func(x *api.Entry) { x.Path = "/" + strings.Repeat("a", 33) }), api.ErrArg, 0},
		"not at the root":      {bad(func(x *api.Entry) { x.Path = "a" }), api.ErrArg, 0},
		"no parts":             {bad(func(x *api.Entry) { x.Path = "/." }), api.ErrArg, 0},
		"the root":             {bad(func(x *api.Entry) { x.Path = "/" }), api.ErrArg, 0},
		"two points":           {[]api.Entry{file("/a/..", "")}, api.ErrArg, 0},
		"two points ahead":     {[]api.Entry{dir("/a", 0, 0), file("/a/../b", "")}, api.ErrArg, 1},
		"a slash behind":       {[]api.Entry{dir("/a/", 0, 0)}, api.ErrArg, 0},
		"a directory's data":   {[]api.Entry{with(dir("/a", 0, 0), func(x *api.Entry) { x.Data = []byte{1} })}, api.ErrArg, 0},
		"a link's data":        {[]api.Entry{with(link("/a", "b"), func(x *api.Entry) { x.Data = []byte{1} })}, api.ErrArg, 0},
		"a file's to":          {[]api.Entry{with(file("/a", ""), func(x *api.Entry) { x.To = "b" })}, api.ErrArg, 0},
		"a directory's to":     {[]api.Entry{with(dir("/a", 0, 0), func(x *api.Entry) { x.To = "b" })}, api.ErrArg, 0},
		"a link to nothing":    {[]api.Entry{link("/a", "")}, api.ErrArg, 0},
		"a link too long":      {[]api.Entry{link("/a", strings.Repeat("/", 201))}, api.ErrArg, 0},
		"big":                  {[]api.Entry{file("/a", ""), big}, api.ErrBig, 1},
		"big and bad":          {[]api.Entry{with(big, func(x *api.Entry) { x.Path = "f" })}, api.ErrArg, 0},
		"big and there":        {[]api.Entry{file("/f", ""), big}, api.ErrBig, 1},
		"big and nowhere":      {[]api.Entry{with(big, func(x *api.Entry) { x.Path = "/x/f" })}, api.ErrBig, 0},
		"there":                {[]api.Entry{dir("/a", 0, 0), dir("/a", 0, 0)}, api.ErrThere, 1},
		"there in other words": {[]api.Entry{dir("/a", 0, 0), file("/a/f", ""), file("//a/./f", "")}, api.ErrThere, 2},
		"nowhere":              {[]api.Entry{file("/a/f", "")}, api.ErrNoEnt, 0},
		"too late":             {[]api.Entry{dir("/b", 0, 0), file("/a/f", ""), dir("/a", 0, 0)}, api.ErrNoEnt, 1},
		"in a file":            {[]api.Entry{file("/f", ""), file("/f/g", "")}, api.ErrNotDir, 1},
		"in a link":            {[]api.Entry{dir("/a", 0, 0), link("/l", "a"), file("/l/g", "")}, api.ErrNotDir, 2},
		"the first of two":     {[]api.Entry{file("/a", ""), file("b", ""), file("/a", "")}, api.ErrArg, 1},
	} {
		if f, e, at := vfs.New(x.l); f != nil || e != x.e || at != x.at {
			t.Errorf("P6.1: %s: %d, %d", name, e, at)
		}
	}
}

func TestNewTakes(t *testing.T) {
	f := made(t, dir("/a", 0o4777, 1), file("/a/.//b", strings.Repeat("y", 65536)), link("//a/c", strings.Repeat("/", 200)), dir("/a/...", 0, 0), file("/a/b\xff", ""))
	for ino, want := range []string{"/", "/a", "/a/b", "/a/c", "/a/...", "/a/b\xff", "", ""} {
		if got := f.Path(ino); got != want {
			t.Errorf("P6.3: Path(%d): %q", ino, got)
		}
	}
	var l []api.Entry
	for i := range 64 {
		l = append(l, dir("/"+strconv.Itoa(i), 0o755, 0))
	}
	if got := made(t, l...).Path(64); got != "/63" {
		t.Errorf("P6.1: 64 entries: %q", got)
	}
	if got, e := made(t).Walk(user(1), 0, "/..", true); got != 0 || e != api.OK {
		t.Errorf("P6.1: the root is its own parent: %d, %d", got, e)
	}
}

func TestMeta(t *testing.T) {
	f := example(t)
	for ino, want := range []api.Meta{{Kind: 2, Mode: 0o755}, {Kind: 2, Mode: 0o700, Uid: 7}, {Kind: 1, Mode: 0o644, Uid: 7, Gid: 8, Size: 3}, {Kind: 3, Mode: 0o777}} {
		if got, e := f.Meta(ino); got != want || e != api.OK {
			t.Errorf("P6.3: Meta(%d): %+v, %d", ino, got, e)
		}
	}
	for _, ino := range []int{-1, 6, 7, 1 << 40, -1 << 63} {
		if got, e := f.Meta(ino); got != (api.Meta{}) || e != api.ErrNoEnt {
			t.Errorf("P6.3: Meta(%d): %+v, %d", ino, got, e)
		}
		if f.Path(ino) != "" {
			t.Errorf("P6.3: Path(%d)", ino)
		}
	}
}

type walk struct {
	euid uint32
	from int
	path string
	last bool
	want int
	e    api.Errno
}

func walks(t *testing.T, f *vfs.FS, l []walk) {
	t.Helper()
	for _, x := range l {
		if got, e := f.Walk(user(x.euid), x.from, x.path, x.last); got != x.want || e != x.e {
			t.Errorf("P6.2: Walk of %d from %d of %q, %v: %d, %d", x.euid, x.from, x.path, x.last, got, e)
		}
	}
}

func TestWalkExamples(t *testing.T) {
	walks(t, example(t), []walk{
		{7, 0, "/a/f", false, 2, api.OK}, {7, 0, "l", true, 2, api.OK}, {7, 0, "l", false, 3, api.OK}, {7, 0, "/a/..", false, 0, api.OK}, {7, 0, "/a/f/", false, 0, api.ErrNotDir}, {7, 0, "/a/f/x", false, 0, api.ErrNotDir}, {7, 0, "x", false, 0, api.ErrNoEnt}, {7, 0, "", false, 0, api.ErrNoEnt},
		{8, 0, "/a/f", false, 0, api.ErrAccess}, {8, 0, "/a", false, 1, api.OK}, {8, 0, "l", true, 0, api.ErrAccess}, {0, 0, "/a/f", false, 2, api.OK},
		{7, 0, "m", true, 0, api.ErrLoop}, {7, 0, "m", false, 4, api.OK}, {7, 0, "d", false, 5, api.OK}, {7, 0, "d/", false, 1, api.OK}, {7, 0, "d/f", false, 2, api.OK},
		{7, 2, "/", false, 0, api.ErrArg}, {7, -1, "/", false, 0, api.ErrArg}, {7, 3, "/", false, 0, api.ErrArg}, {7, 6, "/", false, 0, api.ErrArg}, {7, 2, "", false, 0, api.ErrArg},
		{7, 1, "f", false, 2, api.OK}, {7, 1, "/a", false, 1, api.OK}, {7, 1, "..", false, 0, api.OK}, {7, 1, ".", false, 1, api.OK}, {7, 1, "./", true, 1, api.OK}, {7, 1, "/", true, 0, api.OK},
		{8, 1, "f", false, 0, api.ErrAccess}, {8, 1, "..", false, 0, api.ErrAccess}, {8, 1, ".", false, 1, api.OK}, {8, 1, "/l", false, 3, api.OK}, {8, 0, "/a/x", false, 0, api.ErrAccess},
		{7, 0, "a\x00", false, 0, api.ErrArg}, {7, 0, strings.Repeat("a", 33), false, 0, api.ErrLong}, {7, 0, strings.Repeat("/", 201), false, 0, api.ErrLong},
		{7, 0, "l/", false, 0, api.ErrNotDir}, {7, 0, "l/.", false, 3, api.OK}, {7, 0, "l/.", true, 2, api.OK}, {7, 0, "/a/f/.", false, 2, api.OK}, {7, 0, "/a/f/..", false, 0, api.ErrNotDir}, {7, 0, "l/x", false, 0, api.ErrNotDir}, {7, 0, "m/x", false, 0, api.ErrLoop}, {7, 0, "d", true, 1, api.OK}, {7, 0, "d/..", false, 0, api.OK}, {7, 0, "/../../a//./f", false, 2, api.OK},
	})
}

func TestWalkLinks(t *testing.T) {
	l := []api.Entry{dir("/a", 0o755, 0), file("/a/f", "")} // 1, 2
	for i := range 10 {                                     // 3 to 12: l0 leads to a/f, l1 to l0, ..
		to := "a/f"
		if i > 0 {
			to = "l" + strconv.Itoa(i-1)
		}
		l = append(l, link("/l"+strconv.Itoa(i), to))
	}
	l = append(l, link("/a/up", "../l0"), link("/a/abs", "/a"), link("/root", "/"), link("/here", "."), link("/gone", "nowhere"), link("/filed", "a/f/")) // 13 to 18
	walks(t, made(t, l...), []walk{
		{0, 0, "l7", true, 2, api.OK}, {0, 0, "l8", true, 0, api.ErrLoop}, {0, 0, "l8", false, 11, api.OK}, {0, 0, "l9", false, 12, api.OK},
		{0, 0, "a/up", true, 2, api.OK}, {0, 0, "a/up", false, 13, api.OK}, {0, 1, "up", true, 2, api.OK}, {0, 0, "a/abs/abs/abs/abs/abs/abs/abs/abs/f", false, 2, api.OK}, {0, 0, "a/abs/abs/abs/abs/abs/abs/abs/abs/abs/f", false, 0, api.ErrLoop}, {0, 0, "a/abs/abs/abs/abs/abs/abs/abs/abs/abs", false, 14, api.OK}, {0, 0, "a/abs/abs/abs/abs/abs/abs/abs/abs/abs/", false, 0, api.ErrLoop},
		{0, 1, "/root", true, 0, api.OK}, {0, 1, "/root/a", true, 1, api.OK}, {0, 1, "../here/a/f", true, 2, api.OK}, {0, 1, "../here", false, 16, api.OK}, {0, 1, "../here", true, 0, api.OK},
		{0, 0, "gone", true, 0, api.ErrNoEnt}, {0, 0, "gone", false, 17, api.OK}, {0, 0, "gone/", false, 0, api.ErrNoEnt},
		{0, 0, "filed", true, 2, api.OK}, {0, 0, "filed/", true, 0, api.ErrNotDir}, {0, 0, "filed/..", true, 0, api.ErrNotDir},
	})
}

func TestWalkAccess(t *testing.T) {
	f := made(t, dir("/a", 0o710, 7), dir("/a/b", 0o001, 7), file("/a/b/f", ""), dir("/c", 0o666, 0), file("/c/f", ""))
	for _, x := range []struct {
		c    api.Creds
		path string
		want int
		e    api.Errno
	}{
		{api.Creds{Euid: 7}, "/a/b", 2, api.OK}, {api.Creds{Euid: 7}, "/a/b/f", 0, api.ErrAccess}, {api.Creds{Euid: 9, Gid: 0}, "/a/b", 2, api.OK}, {api.Creds{Euid: 9, Gid: 1, Groups: []uint32{0}}, "/a/b", 2, api.OK}, {api.Creds{Euid: 9, Gid: 1}, "/a/b", 0, api.ErrAccess}, {api.Creds{Euid: 9, Gid: 1}, "/c/f", 0, api.ErrAccess}, {api.Creds{Euid: 0}, "/c/f", 5, api.OK}, {api.Creds{Euid: 0, Gid: 1}, "/a/b/f", 3, api.OK},
	} {
		if got, e := f.Walk(x.c, 0, x.path, false); got != x.want || e != x.e {
			t.Errorf("P6.2: %v to %s: %d, %d", x.c, x.path, got, e)
		}
	}
}

func TestRead(t *testing.T) {
	f := example(t)
	const most = 1<<63 - 1
	for _, x := range []struct {
		ino, off, n int
		want        string
		e           api.Errno
	}{
		{2, 0, 3, "\x01\x02\x03", api.OK}, {2, 1, 9, "\x02\x03", api.OK}, {2, 1, 1, "\x02", api.OK}, {2, 3, 1, "", api.OK}, {2, 99, 1, "", api.OK}, {2, 1, 0, "", api.OK}, {2, most, most, "", api.OK}, {2, 2, most, "\x03", api.OK},
		{1, 0, 1, "", api.ErrIsDir}, {0, -1, 1, "", api.ErrIsDir}, {3, 0, 1, "", api.ErrArg}, {9, 0, 1, "", api.ErrNoEnt}, {-1, 0, 1, "", api.ErrNoEnt}, {9, -1, 1, "", api.ErrNoEnt}, {2, -1, 1, "", api.ErrArg}, {2, 0, -1, "", api.ErrArg},
	} {
		if got, e := f.Read(x.ino, x.off, x.n); string(got) != x.want || e != x.e {
			t.Errorf("P6.4: Read(%d, %d, %d): %q, %d", x.ino, x.off, x.n, got, e)
		}
	}
}

func TestNothingIsShared(t *testing.T) {
	data := []byte("abc")
	l := []api.Entry{{Path: "/f", Kind: 1, Data: data}}
	f := made(t, l...)
	data[0], l[0].Path = 'x', "/g"
	got, _ := f.Read(1, 0, 9)
	if string(got) != "abc" || f.Path(1) != "/f" {
		t.Errorf("R3: what was handed in is kept: %q", got)
	}
	got[1] = 'x'
	_ = append(got[:1], "yz"...)
	if again, _ := f.Read(1, 0, 9); string(again) != "abc" {
		t.Errorf("R3: what was answered is shared: %q", again)
	}
}

func TestNil(t *testing.T) {
	var f *vfs.FS
	if got, e := f.Walk(user(1), -1, "", true); got != 0 || e != api.ErrNil {
		t.Errorf("P6.2: of nil: %d, %d", got, e)
	}
	if got, e := f.Meta(-1); got != (api.Meta{}) || e != api.ErrNil {
		t.Errorf("P6.3: of nil: %v, %d", got, e)
	}
	if got, e := f.Read(-1, -1, -1); len(got) != 0 || e != api.ErrNil {
		t.Errorf("P6.4: of nil: %v, %d", got, e)
	}
	if f.Path(0) != "" {
		t.Error("P6.3: Path of nil")
	}
}

// tree is a file system of many nodes, made by chance.
func tree(r *rand.Rand) []api.Entry {
	dirs, l := []string{""}, []api.Entry(nil)
	for i := range 40 {
		path := dirs[r.Intn(len(dirs))] + "/" + string(rune('a'+i))
		switch r.Intn(3) {
		case 0:
			l = append(l, file(path, path))
		case 1:
			l = append(l, dir(path, []uint16{0o755, 0o711, 0o700}[r.Intn(3)], uint32(r.Intn(2)+7)))
			dirs = append(dirs, path)
		default:
			to := []string{"", "..", "/"}[r.Intn(3)] + dirs[r.Intn(len(dirs))] + "/" + string(rune('a'+r.Intn(40)))
			l = append(l, link(path, strings.TrimPrefix(to, []string{"/", ""}[r.Intn(2)])))
		}
	}
	return l
}

func TestWhatFollows(t *testing.T) {
	r := rand.New(rand.NewSource(6))
	for range 60 {
		l := tree(r)
		f, e, _ := vfs.New(l)
		if e != api.OK {
			continue
		}
		for i, x := range l {
			if got, e := f.Walk(user(0), 0, f.Path(i+1), false); got != i+1 || e != api.OK {
				t.Fatalf("P6.2: %s: %d, %d", f.Path(i+1), got, e)
			}
			whole, _ := f.Read(i+1, 0, 99)
			one, _ := f.Read(i+1, 0, 1)
			rest, _ := f.Read(i+1, 1, 99)
			if !bytes.Equal(append(one, rest...), whole) || !bytes.Equal(whole, x.Data) {
				t.Fatalf("P6.4: %s in pieces", x.Path)
			}
			for _, last := range []bool{true, false} {
				a, ea := f.Walk(user(8), 0, x.Path+x.To, last)
				b, eb := f.Walk(user(0), 0, x.Path+x.To, last)
				if ea != api.ErrAccess && (a != b || ea != eb) {
					t.Fatalf("P6.2: 8 and 0 of %s", x.Path)
				}
			}
			if x.Kind == api.NodeLink {
				above, _ := f.Walk(user(0), 0, paths.Dir(x.Path), true)
				a, ea := f.Walk(user(0), 0, x.Path, true)
				b, eb := f.Walk(user(0), above, x.To, true)
				if ea != api.ErrLoop && (a != b || ea != eb) {
					t.Fatalf("P6.2: the link %s to %s: %d, %d; %d, %d", x.Path, x.To, a, ea, b, eb)
				}
			}
		}
	}
}
