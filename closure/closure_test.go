package closure_test

import (
	"reflect"
	"strconv"
	"strings"
	"testing"

	"hostel/api"
	"hostel/closure"
	"hostel/dynamic"
	"hostel/elf"
	"hostel/maker"
	"hostel/vfs"
)

// object is an object's file that needs these names (with a blank between each two) and has this run.
func object(t *testing.T, kind uint16, needed, run string) []byte {
	t.Helper()
	x := api.Spec{Type: kind, Text: []byte{0xc3}, Dynamic: true, Dyn: api.Dynamic{Needed: strings.Fields(needed), Run: run, Syms: []api.Sym{{Name: "s" + needed, Bind: 1, Def: true}}}}
	if kind == api.TypeExec {
		x.Entry = maker.ExecBase + maker.TextAt
	}
	b, e := maker.Make(x)
	if e != api.OK {
		t.Fatal(e)
	}
	return b
}

// world are directories and, behind each path, a file; those that begin with : are texts.
type world map[string]string

func (w world) files(t *testing.T, order ...string) *vfs.FS {
	t.Helper()
	l := []api.Entry{{Path: "/lib", Kind: 2, Mode: 0o755}, {Path: "/x", Kind: 2, Mode: 0o755}, {Path: "/usr", Kind: 2, Mode: 0o755}, {Path: "/usr/lib", Kind: 2, Mode: 0o755}}
	for _, path := range order {
		needed, run, _ := strings.Cut(w[path], "@")
		x := api.Entry{Path: path, Kind: 1, Mode: 0o644}
		switch {
		case strings.HasPrefix(needed, ":"):
			x.Data = []byte(needed)
		case strings.HasPrefix(needed, ">"):
			x.Kind, x.To = 3, needed[1:]
		case strings.HasPrefix(needed, "!"):
			x.Data = object(t, 2, needed[1:], run)
		default:
			x.Data = object(t, 3, needed, run)
		}
		if strings.HasPrefix(path, "/x/secret") {
			x.Mode = 0o600
		}
		l = append(l, x)
	}
	fs, e, at := vfs.New(l)
	if e != api.OK {
		t.Fatal(e, at)
	}
	return fs
}

type ask struct {
	library string
	secure  bool
	want    string // paths, or an error's number
}

// check asks for the closure of the file 5, which is the first of the order.
func check(t *testing.T, fs *vfs.FS, l ...ask) {
	t.Helper()
	for _, x := range l {
		got, e := closure.Closure(fs, api.Creds{Euid: 7, Gid: 7}, 5, x.library, x.secure)
		var told []string
		for _, o := range got {
			told = append(told, fs.Path(o.Ino))
			b, _ := fs.Read(o.Ino, 0, api.MaxFile)
			h, _ := elf.Parse(b)
			d, _ := dynamic.Parse(b, h)
			if !reflect.DeepEqual(o, api.Object{Ino: o.Ino, Head: h, Dyn: d}) {
				t.Errorf("P16.1: the object of %s: %+v", fs.Path(o.Ino), o)
			}
		}
		if e != api.OK {
			told = append(told, strconv.Itoa(int(e)))
		}
		if strings.Join(told, " ") != x.want {
			t.Errorf("P16.1: with %q, %v: %q, want %q", x.library, x.secure, told, x.want)
		}
	}
}

func TestExamples(t *testing.T) {
	w := world{"/main": "a b", "/lib/a": "c b", "/lib/b": "", "/lib/c": "a", "/x/b": ""}
	check(t, w.files(t, "/main", "/lib/a", "/lib/b", "/lib/c"), ask{"", false, "/main /lib/a /lib/b /lib/c"}, ask{"/x", false, "/main /lib/a /lib/b /lib/c"})
	check(t, w.files(t, "/main", "/lib/a", "/lib/b", "/lib/c", "/x/b"), ask{"/x", false, "/main /lib/a /x/b /lib/c"}, ask{"/x", true, "/main /lib/a /lib/b /lib/c"}, ask{"", false, "/main /lib/a /lib/b /lib/c"})
	check(t, w.files(t, "/main", "/lib/a", "/lib/b"), ask{"", false, "19"})
	check(t, world{"/main": "a b", "/lib/a": "c b", "/lib/b": ":text", "/lib/c": "a"}.files(t, "/main", "/lib/a", "/lib/b", "/lib/c"), ask{"", false, "20"})
}

func TestMain(t *testing.T) {
	fs := world{"/main": ":text", "/o": "", "/e": "!", "/l": ">o"}.files(t, "/main", "/o", "/e", "/l")
	check(t, fs, ask{"", false, "13"})
	for ino, want := range map[int]api.Errno{0: api.ErrIsDir, 1: api.ErrIsDir, 6: api.OK, 7: api.OK, 8: api.ErrArg, 9: api.ErrNoEnt, -1: api.ErrNoEnt} {
		if l, e := closure.Closure(fs, api.Creds{}, ino, "", false); e != want || (len(l) == 1) != (e == api.OK) {
			t.Errorf("P16.1: of the file %d: %d", ino, e)
		}
	}
	if l, e := closure.Closure(nil, api.Creds{}, 0, "", false); len(l) != 0 || e != api.ErrNil {
		t.Errorf("P16.1: without files: %d", e)
	}
	b := object(t, 3, "", "")
	bad := object(t, 3, "a", "")
	h, _ := elf.Parse(bad)
	for _, s := range h.Segs {
		if s.Kind == api.SegDynamic {
			bad[s.Off+8] = 0xff // NEEDED is a place without a text
		}
	}
	headless := append([]byte(nil), b...)
	headless[64+4] = 8 // flags of a program header
	fs, _, _ = vfs.New([]api.Entry{{Path: "/bad", Kind: 1, Data: bad}, {Path: "/headless", Kind: 1, Data: headless}})
	for ino := 1; ino <= 2; ino++ {
		if l, e := closure.Closure(fs, api.Creds{}, ino, "", false); len(l) != 0 || e != api.ErrForm {
			t.Errorf("P16.1: of a bad object: %d", e)
		}
	}
}

func TestLibraries(t *testing.T) {
	for _, x := range []struct {
		name  string
		w     world
		order string
		asks  []ask
	}{
		{"a library that is an exec", world{"/main": "a", "/lib/a": "!"}, "/main /lib/a", []ask{{"", false, "20"}}},
		{"a main that is an exec", world{"/main": "!a", "/lib/a": ""}, "/main /lib/a", []ask{{"", false, "/main /lib/a"}}},
		{"a library that needs the main one", world{"/main": "a", "/lib/a": "/main a"}, "/main /lib/a", []ask{{"", false, "/main /lib/a"}}},
		{"a library that needs a main exec", world{"/main": "!a", "/lib/a": "/main"}, "/main /lib/a", []ask{{"", false, "/main /lib/a"}}},
		{"the main one needs itself", world{"/main": "/main"}, "/main", []ask{{"", false, "/main"}}},
		{"one file by several names", world{"/main": "a b ./lib/a /x/../lib/a", "/lib/a": "", "/lib/b": ">a"}, "/main /lib/a /lib/b", []ask{{"", false, "/main /lib/a"}}},
		{"run counts for the object's own names", world{"/main": "a@/x", "/x/a": "b", "/lib/b": "", "/x/b": ""}, "/main /x/a /lib/b /x/b", []ask{{"", false, "/main /x/a /lib/b"}, {"/x", false, "/main /x/a /x/b"}, {"/x", true, "/main /x/a /lib/b"}}},
		{"run ahead of library", world{"/main": "a@/usr", "/usr/a": "", "/x/a": "", "/lib/a": ""}, "/main /usr/a /x/a /lib/a", []ask{{"/x", false, "/main /usr/a"}, {"/x", true, "/main /usr/a"}}},
		{"from the root", world{"/main": "x/a", "/x/a": ""}, "/main /x/a", []ask{{"", false, "/main /x/a"}}},
		{"what may not be read", world{"/main": "secret", "/x/secret": "", "/usr/lib/secret": ""}, "/main /x/secret /usr/lib/secret", []ask{{"/x", false, "/main /usr/lib/secret"}}},
		{"what may not be read, alone", world{"/main": "secret", "/x/secret": ""}, "/main /x/secret", []ask{{"/x", false, "19"}}},
		{"breadth first", world{"/main": "a b", "/lib/a": "c", "/lib/b": "d", "/lib/c": "e", "/lib/d": "", "/lib/e": "b"}, "/main /lib/e /lib/d /lib/c /lib/b /lib/a", []ask{{"", false, "/main /lib/a /lib/b /lib/c /lib/d /lib/e"}}},
		{"the first error counts", world{"/main": "bad gone", "/lib/bad": ":"}, "/main /lib/bad", []ask{{"", false, "20"}}},
		{"the first error counts, the other way", world{"/main": "gone bad", "/lib/bad": ":"}, "/main /lib/bad", []ask{{"", false, "19"}}},
		{"a text ahead in the way", world{"/main": "a", "/x/a": ":", "/lib/a": ""}, "/main /x/a /lib/a", []ask{{"/x", false, "20"}, {"/x", true, "/main /lib/a"}}},
	} {
		t.Log(x.name)
		check(t, x.w.files(t, strings.Fields(x.order)...), x.asks...)
	}
}

func TestMany(t *testing.T) {
	w := world{"/main": "1"}
	order := []string{"/main"}
	for i := 1; i <= 9; i++ {
		w["/lib/"+strconv.Itoa(i)] = strconv.Itoa(i+1) + " 1 /main"
		order = append(order, "/lib/"+strconv.Itoa(i))
	}
	w["/lib/7"] = "1 2 3 4 5 6 7"
	check(t, w.files(t, order...), ask{"", false, "/main /lib/1 /lib/2 /lib/3 /lib/4 /lib/5 /lib/6 /lib/7"})
	w["/lib/7"] = "8"
	w["/lib/8"] = ":a text"
	check(t, w.files(t, order...), ask{"", false, "15"})
	w["/lib/7"] = "nowhere 8"
	check(t, w.files(t, order...), ask{"", false, "19"})
	w["/lib/7"] = "1 /main 8"
	check(t, w.files(t, order...), ask{"", false, "15"})
}
