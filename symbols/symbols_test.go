package symbols_test

import (
	"math/rand"
	"slices"
	"testing"

	"hostel/api"
	"hostel/symbols"
)

const top = 1<<64 - 1

func sym(name string, value uint64, bind uint8, def bool) api.Sym {
	return api.Sym{Name: name, Value: value, Bind: bind, Def: def}
}

func object(base uint64, l ...api.Sym) api.Object {
	return api.Object{Base: base, Dyn: api.Dynamic{Syms: l}}
}

// example are the objects of the chapter's examples.
func example() []api.Object {
	return []api.Object{
		object(100, sym("f", 1, 1, true), sym("g", 0, 1, false), sym("h", 2, 0, true)),
		object(200, sym("f", 5, 1, true), sym("g", 6, 2, true), sym("w", 0, 2, false), sym("x", 0, 1, false)),
	}
}

func TestLookup(t *testing.T) {
	l := append(example(), object(300, sym("f", 1, 2, true), sym("h", 9, 0, true), sym("", 3, 1, true), sym("k", 0, 9, true), sym("g", 8, 1, true)), object(1, sym("h", 1, 1, false)))
	for _, x := range []struct {
		name        string
		object, sym int
		ok          bool
	}{{"f", 0, 0, true}, {"g", 1, 1, true}, {"h", 0, 0, false}, {"w", 0, 0, false}, {"x", 0, 0, false}, {"", 2, 2, true}, {"k", 2, 3, true}, {"nobody", 0, 0, false}, {"F", 0, 0, false}} {
		if object, sym, ok := symbols.Lookup(l, x.name); object != x.object || sym != x.sym || ok != x.ok {
			t.Errorf("P18.1: %q: %d, %d, %v", x.name, object, sym, ok)
		}
	}
	if object, sym, ok := symbols.Lookup(nil, "f"); object != 0 || sym != 0 || ok {
		t.Error("P18.1: of no objects")
	}
	twice := []api.Object{object(0, sym("a", 1, 0, true), sym("a", 2, 1, false), sym("a", 3, 1, true), sym("a", 4, 1, true))}
	if _, sym, ok := symbols.Lookup(twice, "a"); sym != 2 || !ok {
		t.Errorf("P18.1: the first definition: %d", sym)
	}
}

func TestValue(t *testing.T) {
	l := append(example(), object(top, sym("a", 2, 1, false), sym("b", 0, 0, false)))
	for _, x := range []struct {
		object, sym int
		want        uint64
	}{{0, 0, 101}, {1, 1, 206}, {1, 9, 0}, {0, 1, 100}, {0, 2, 102}, {2, 0, 1}, {2, 1, top}, {3, 0, 0}, {-1, 0, 0}, {0, -1, 0}, {0, 3, 0}, {1 << 62, 0, 0}, {0, -1 << 63, 0}} {
		if got := symbols.Value(l, x.object, x.sym); got != x.want {
			t.Errorf("P18.2: %d of %d: %d", x.sym, x.object, got)
		}
	}
	if symbols.Value(nil, 0, 0) != 0 {
		t.Error("P18.2: of no objects")
	}
}

func TestOf(t *testing.T) {
	l := append(example(), object(300, sym("f", 1, 0, false), sym("f", 2, 2, true), sym("h", 3, 2, false), sym("h", 4, 0, false), sym("f", 7, 0, true), sym("q", 1, 9, false), sym("w", 5, 2, false)))
	for _, x := range []struct {
		object, sym int
		want        uint64
		e           api.Errno
	}{
		{0, 0, 101, 0}, {0, 1, 206, 0}, {0, 2, 102, 0}, {1, 0, 101, 0}, {1, 1, 206, 0}, {1, 2, 0, 0}, {1, 3, 0, api.ErrSym}, {1, 4, 0, api.ErrArg},
		{2, 0, 101, 0}, {2, 1, 101, 0}, {2, 2, 0, 0}, {2, 3, 0, api.ErrSym}, {2, 4, 307, 0}, {2, 5, 0, api.ErrSym}, {2, 6, 0, 0},
		{3, 0, 0, api.ErrArg}, {-1, 0, 0, api.ErrArg}, {0, -1, 0, api.ErrArg}, {0, 3, 0, api.ErrArg}, {1 << 62, 1 << 62, 0, api.ErrArg},
	} {
		if got, e := symbols.Of(l, x.object, x.sym); got != x.want || e != x.e {
			t.Errorf("P18.3: %d of %d: %d, %d", x.sym, x.object, got, e)
		}
	}
	if got, e := symbols.Of(nil, 0, 0); got != 0 || e != api.ErrArg {
		t.Errorf("P18.3: of no objects: %d", e)
	}
	wraps := []api.Object{object(top, sym("a", 5, 1, true))}
	if got, e := symbols.Of(wraps, 0, 0); got != 4 || e != api.OK {
		t.Errorf("P18.3: modulo 2^64: %d, %d", got, e)
	}
}

func TestAll(t *testing.T) {
	if got := symbols.All(example()); !slices.Equal(got, []string{"f", "g"}) {
		t.Errorf("P18.4: %q", got)
	}
	l := []api.Object{object(0, sym("z", 0, 1, true), sym("a", 0, 2, true), sym("z", 0, 1, true), sym("", 0, 1, true)), {}, object(0, sym("b", 0, 0, true), sym("a", 0, 1, true), sym("c", 0, 1, false), sym("d", 0, 1, true))}
	if got := symbols.All(l); !slices.Equal(got, []string{"z", "a", "", "d"}) {
		t.Errorf("P18.4: %q", got)
	}
	if len(symbols.All(nil)) != 0 {
		t.Error("P18.4: of no objects")
	}
}

func TestWhatFollows(t *testing.T) {
	r := rand.New(rand.NewSource(18))
	names := []string{"a", "b", "c", "d", "e"}
	for range 1000 {
		var l []api.Object
		for range 1 + r.Intn(4) {
			o := object(r.Uint64())
			for range r.Intn(5) {
				o.Dyn.Syms = append(o.Dyn.Syms, sym(names[r.Intn(5)], r.Uint64(), uint8(r.Intn(3)), r.Intn(2) == 0))
			}
			l = append(l, o)
		}
		all := symbols.All(l)
		for _, name := range names {
			o, s, ok := symbols.Lookup(l, name)
			if ok != slices.Contains(all, name) {
				t.Fatalf("P18.4: %q", name)
			}
			if !ok {
				continue
			}
			if x := l[o].Dyn.Syms[s]; x.Name != name || !x.Def || x.Bind == 0 {
				t.Fatalf("P18.1: %q: %+v", name, x)
			}
			behind := append(slices.Clone(l), object(7, sym(name, 7, 1, true)))
			if o2, s2, _ := symbols.Lookup(behind, name); o2 != o || s2 != s {
				t.Fatalf("P18.1: an object behind all others counts")
			}
			ahead := append([]api.Object{object(7, sym(name, 7, 0, true), sym(name, 7, 1, false))}, l...)
			if o2, s2, _ := symbols.Lookup(ahead, name); o2 != o+1 || s2 != s {
				t.Fatalf("P18.1: an object ahead counts")
			}
			for i := range l {
				for k, x := range l[i].Dyn.Syms {
					if got, e := symbols.Of(l, i, k); x.Name == name && !(x.Bind == 0 && x.Def) && (e != api.OK || got != symbols.Value(l, o, s)) {
						t.Fatalf("P18.3: %q of %d: %d, %d", name, i, got, e)
					}
				}
			}
		}
	}
}
