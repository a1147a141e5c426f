package regions_test

import (
	"math/rand"
	"slices"
	"testing"

	"hostel/api"
	"hostel/regions"
)

const (
	page = api.Page
	end  = api.UserEnd / page // in pages
	top  = 1<<64 - 1
)

// reg is a region told in pages.
func reg(from, to uint64, prot uint8, ino int, off uint64) api.Region {
	return api.Region{From: from * page, To: to * page, Prot: prot, Ino: ino, Off: off * page}
}

var (
	r1 = reg(1, 3, 4, -1, 0)
	f1 = reg(4, 8, 5, 2, 0)
	rf = []api.Region{r1, f1}
)

// apart are n regions of a page each, with a page free between them.
func apart(n int) []api.Region {
	var l []api.Region
	for i := range uint64(n) {
		l = append(l, reg(2*i, 2*i+1, 4, -1, 0))
	}
	return l
}

func with(r api.Region, turn func(r *api.Region)) api.Region {
	turn(&r)
	return r
}

func TestMayBe(t *testing.T) {
	for _, x := range []struct {
		r   api.Region
		may bool
	}{
		{r1, true}, {f1, true}, {reg(0, 1, 0, -1, 0), true}, {reg(0, end, 7, -1, 0), true}, {reg(end-1, end, 7, 0, 0), true},
		{reg(0, 1, 0, 5, 1<<36-1), true}, {reg(1<<20, 1<<20+1, 0, 5, 1<<36-1), true}, {reg(0, 1, 0, 5, 1<<36), false}, {reg(0, 2, 0, 5, 1<<36-1), false}, {reg(0, end, 0, 5, 1<<36-end), true}, {reg(0, end, 0, 5, 1<<36-end+1), false}, {reg(0, 1, 0, 5, 1<<52-1), false},
		{reg(1, 1, 4, -1, 0), false}, {reg(2, 1, 4, -1, 0), false}, {reg(end, end+1, 4, -1, 0), false}, {reg(0, end+1, 4, -1, 0), false}, {reg(0, 1<<52-1, 4, -1, 0), false}, {reg(1, 3, 8, -1, 0), false}, {reg(1, 3, 255, -1, 0), false}, {reg(1, 3, 4, -2, 0), false}, {reg(1, 3, 4, -1<<63, 0), false}, {reg(1, 3, 4, -1, 1), false},
		{with(f1, func(r *api.Region) { r.From++ }), false}, {with(f1, func(r *api.Region) { r.To-- }), false}, {with(f1, func(r *api.Region) { r.Off = 1 }), false}, {with(r1, func(r *api.Region) { r.Off = 1 }), false}, {with(f1, func(r *api.Region) { r.Off = top - 4095 }), false}, {api.Region{}, false},
	} {
		if got := regions.Right([]api.Region{x.r}); got != x.may {
			t.Errorf("P10.1: Right of %+v: %v", x.r, got)
		}
		if got, e := regions.Put(nil, x.r); (e == api.OK) != x.may || !x.may && e != api.ErrArg || x.may && !slices.Equal(got, []api.Region{x.r}) {
			t.Errorf("P10.3: Put of %+v: %v, %d", x.r, got, e)
		}
	}
}

func TestRight(t *testing.T) {
	for _, x := range []struct {
		l     []api.Region
		right bool
	}{
		{nil, true}, {rf, true}, {[]api.Region{f1, r1}, false}, {[]api.Region{r1, reg(3, 5, 4, -1, 0)}, false}, {[]api.Region{r1, reg(3, 5, 5, -1, 0)}, true}, {[]api.Region{r1, reg(2, 5, 5, -1, 0)}, false}, {[]api.Region{r1, r1}, false},
		{[]api.Region{f1, reg(8, 9, 5, 2, 4)}, false}, {[]api.Region{f1, reg(8, 9, 5, 2, 5)}, true}, {[]api.Region{f1, reg(8, 9, 5, 2, 0)}, true}, {[]api.Region{f1, reg(8, 9, 5, 3, 4)}, true}, {[]api.Region{f1, reg(8, 9, 4, 2, 4)}, true}, {[]api.Region{f1, reg(8, 9, 5, -1, 0)}, true},
		{apart(64), true}, {apart(65), false}, {append(apart(3), api.Region{}), false}, {append([]api.Region{{}}, apart(3)...), false},
	} {
		if got := regions.Right(x.l); got != x.right {
			t.Errorf("P10.1: Right of %v: %v", x.l, got)
		}
		if x.right {
			continue
		}
		if got, e := regions.Put(x.l, reg(900, 901, 4, -1, 0)); e != api.ErrArg || len(got) != 0 {
			t.Errorf("P10.3: Put into %v: %d", x.l, e)
		}
		if got, e := regions.Cut(x.l, 0, page); e != api.ErrArg || len(got) != 0 {
			t.Errorf("P10.4: Cut of %v: %d", x.l, e)
		}
		if got, e := regions.Protect(x.l, 0, page, 4); e != api.ErrArg || len(got) != 0 {
			t.Errorf("P10.5: Protect of %v: %d", x.l, e)
		}
		if got, e := regions.Gap(x.l, page, 0); e != api.ErrArg || got != 0 {
			t.Errorf("P10.7: Gap of %v: %d", x.l, e)
		}
	}
}

func TestJoins(t *testing.T) {
	for _, x := range []struct {
		a, b  api.Region
		joins bool
	}{
		{reg(1, 3, 5, 2, 0), reg(3, 4, 5, 2, 2), true}, {reg(1, 3, 5, 2, 0), reg(3, 4, 5, 2, 0), false}, {reg(1, 3, 4, -1, 0), reg(3, 4, 4, -1, 0), true}, {reg(3, 4, 4, -1, 0), reg(1, 3, 4, -1, 0), false}, {reg(1, 3, 4, -1, 0), reg(4, 5, 4, -1, 0), false}, {reg(1, 3, 4, -1, 0), reg(2, 5, 4, -1, 0), false}, {reg(1, 3, 4, -1, 0), reg(3, 4, 5, -1, 0), false}, {reg(1, 3, 4, -1, 0), reg(3, 4, 4, 0, 2), false}, {reg(1, 3, 4, -1, 7), reg(3, 4, 4, -1, 1), true}, {reg(1, 3, 9, -9, 7), reg(3, 4, 9, -9, 9), true}, {reg(1, 3, 9, -9, 7), reg(3, 4, 9, -9, 8), false},
		{api.Region{From: 5, To: 2, Ino: 3, Off: 1}, api.Region{From: 2, Ino: 3, Off: top - 1}, true}, {api.Region{From: 0, To: 9, Ino: 3, Off: top}, api.Region{From: 9, Ino: 3, Off: 8}, true}, {api.Region{}, api.Region{}, true},
	} {
		if got := regions.Joins(x.a, x.b); got != x.joins {
			t.Errorf("P10.2: Joins(%+v, %+v): %v", x.a, x.b, got)
		}
	}
}

type change struct {
	name string
	got  func() ([]api.Region, api.Errno)
	want []api.Region
	e    api.Errno
}

func put(l []api.Region, r api.Region) func() ([]api.Region, api.Errno) {
	return func() ([]api.Region, api.Errno) { return regions.Put(l, r) }
}

func cut(l []api.Region, from, to uint64) func() ([]api.Region, api.Errno) {
	return func() ([]api.Region, api.Errno) { return regions.Cut(l, from*page, to*page) }
}

func protect(l []api.Region, from, to uint64, prot uint8) func() ([]api.Region, api.Errno) {
	return func() ([]api.Region, api.Errno) { return regions.Protect(l, from*page, to*page, prot) }
}

func TestChanges(t *testing.T) {
	full := apart(64)
	files := []api.Region{reg(0, 3, 4, 1, 0)}
	for i := range uint64(63) {
		files = append(files, reg(10+2*i, 11+2*i, 4, -1, 0))
	}
	for _, x := range []change{
		{"P10.3 within a file", put(rf, reg(5, 6, 6, -1, 0)), []api.Region{r1, reg(4, 5, 5, 2, 0), reg(5, 6, 6, -1, 0), reg(6, 8, 5, 2, 2)}, api.OK},
		{"P10.3 that joins", put(rf, reg(3, 4, 4, -1, 0)), []api.Region{reg(1, 4, 4, -1, 0), f1}, api.OK},
		{"P10.3 that joins both", put([]api.Region{r1, reg(4, 6, 4, -1, 0)}, reg(3, 4, 4, -1, 0)), []api.Region{reg(1, 6, 4, -1, 0)}, api.OK},
		{"P10.3 of a file that joins", put(rf, reg(8, 9, 5, 2, 4)), []api.Region{r1, reg(4, 9, 5, 2, 0)}, api.OK},
		{"P10.3 ahead that joins", put([]api.Region{reg(4, 8, 5, 2, 1)}, reg(3, 4, 5, 2, 0)), []api.Region{reg(3, 8, 5, 2, 0)}, api.OK},
		{"P10.3 of what is there", put(rf, f1), rf, api.OK},
		{"P10.3 of a part of what is there", put(rf, reg(5, 6, 5, 2, 1)), rf, api.OK},
		{"P10.3 over all", put(rf, reg(0, 9, 1, -1, 0)), []api.Region{reg(0, 9, 1, -1, 0)}, api.OK},
		{"P10.3 over two edges", put(rf, reg(2, 5, 1, -1, 0)), []api.Region{reg(1, 2, 4, -1, 0), reg(2, 5, 1, -1, 0), reg(5, 8, 5, 2, 1)}, api.OK},
		{"P10.3 ahead of all", put(rf, reg(0, 1, 1, -1, 0)), []api.Region{reg(0, 1, 1, -1, 0), r1, f1}, api.OK},
		{"P10.3 a 65th", put(full, reg(500, 501, 4, -1, 0)), nil, api.ErrMany},
		{"P10.3 a 65th that joins", put(full, reg(1, 2, 4, -1, 0)), append([]api.Region{reg(0, 3, 4, -1, 0)}, full[2:]...), api.OK},
		{"P10.3 in place of one of 64", put(full, reg(2, 3, 5, -1, 0)), slices.Concat(full[:1], []api.Region{reg(2, 3, 5, -1, 0)}, full[2:]), api.OK},
		{"P10.3 of what may not be", put(rf, reg(5, 5, 4, -1, 0)), nil, api.ErrArg},
		{"P10.3 of what may not be into 64", put(full, reg(500, 501, 8, -1, 0)), nil, api.ErrArg},
		{"P10.4 over two edges", cut(rf, 2, 5), []api.Region{reg(1, 2, 4, -1, 0), reg(5, 8, 5, 2, 1)}, api.OK},
		{"P10.4 within", cut(rf, 5, 7), []api.Region{r1, reg(4, 5, 5, 2, 0), reg(7, 8, 5, 2, 3)}, api.OK},
		{"P10.4 of nothing", cut(rf, 3, 4), rf, api.OK}, {"P10.4 of none", cut(nil, 3, 4), nil, api.OK}, {"P10.4 of all", cut(rf, 0, end), nil, api.OK},
		{"P10.4 just one", cut(rf, 1, 3), []api.Region{f1}, api.OK},
		{"P10.4 of 64", cut(files, 1, 2), nil, api.ErrMany},
		{"P10.4 of nothing in 64", cut(full, 1, 2), full, api.OK},
		{"P10.4 empty", cut(rf, 3, 3), nil, api.ErrArg}, {"P10.4 backwards", cut(rf, 4, 3), nil, api.ErrArg}, {"P10.4 too far", cut(rf, 0, end+1), nil, api.ErrArg},
		{"P10.5 a part", protect([]api.Region{f1}, 4, 6, 1), []api.Region{reg(4, 6, 1, 2, 0), reg(6, 8, 5, 2, 2)}, api.OK},
		{"P10.5 the middle", protect([]api.Region{f1}, 5, 6, 0), []api.Region{reg(4, 5, 5, 2, 0), reg(5, 6, 0, 2, 1), reg(6, 8, 5, 2, 2)}, api.OK},
		{"P10.5 a hole", protect(rf, 2, 5, 4), nil, api.ErrFault}, {"P10.5 ahead", protect(rf, 0, 2, 4), nil, api.ErrFault}, {"P10.5 behind", protect(rf, 7, 9, 4), nil, api.ErrFault}, {"P10.5 of none", protect(nil, 0, 1, 4), nil, api.ErrFault},
		{"P10.5 of the same", protect(rf, 4, 8, 5), rf, api.OK},
		{"P10.5 neighbours", protect([]api.Region{r1, reg(3, 5, 5, -1, 0)}, 3, 5, 4), []api.Region{reg(1, 5, 4, -1, 0)}, api.OK},
		{"P10.5 neighbours of several kinds", protect([]api.Region{r1, reg(3, 5, 5, 2, 0), reg(5, 6, 7, 2, 2)}, 1, 6, 7), []api.Region{reg(1, 3, 7, -1, 0), reg(3, 6, 7, 2, 0)}, api.OK},
		{"P10.5 of 64", protect(files, 1, 2, 5), nil, api.ErrMany},
		{"P10.5 one of 64", protect(full, 0, 1, 5), slices.Concat([]api.Region{reg(0, 1, 5, -1, 0)}, full[1:]), api.OK},
		{"P10.5 too much", protect(rf, 4, 6, 8), nil, api.ErrArg}, {"P10.5 empty", protect(rf, 4, 4, 4), nil, api.ErrArg}, {"P10.5 backwards", protect(rf, 5, 4, 4), nil, api.ErrArg}, {"P10.5 too far", protect(rf, 4, end+1, 4), nil, api.ErrArg}, {"P10.5 too much, of a hole", protect(rf, 2, 5, 8), nil, api.ErrArg},
	} {
		if got, e := x.got(); !slices.Equal(got, x.want) || e != x.e {
			t.Errorf("%s: %v, %d", x.name, got, e)
		}
	}
	if !slices.Equal(rf, []api.Region{r1, f1}) || !slices.Equal(full, apart(64)) {
		t.Error("R3: a list that was handed in is another one")
	}
	for _, x := range [][2]uint64{{1, 2 * page}, {page, 2*page + 1}, {page, top}, {top - 4095, top}} {
		if got, e := regions.Cut(rf, x[0], x[1]); e != api.ErrArg || len(got) != 0 {
			t.Errorf("P10.4: Cut from %d to %d: %d", x[0], x[1], e)
		}
		if got, e := regions.Protect(rf, x[0], x[1], 1); e != api.ErrArg || len(got) != 0 {
			t.Errorf("P10.5: Protect from %d to %d: %d", x[0], x[1], e)
		}
	}
}

func TestFind(t *testing.T) {
	none := api.Region{}
	for _, x := range []struct {
		l    []api.Region
		a    uint64
		want api.Region
		ok   bool
	}{
		{rf, 3 * page, none, false}, {rf, 4 * page, f1, true}, {rf, 3*page - 1, r1, true}, {rf, page, r1, true}, {rf, page - 1, none, false}, {rf, 8*page - 1, f1, true}, {rf, 8 * page, none, false}, {rf, top, none, false}, {nil, 0, none, false},
		{[]api.Region{{From: 5, To: 9, Prot: 77}, {From: 0, To: top}, {From: 5, To: 9}}, 5, api.Region{From: 5, To: 9, Prot: 77}, true}, {[]api.Region{{From: 5, To: 9, Prot: 77}, {From: 0, To: top}, {From: 5, To: 9}}, 9, api.Region{From: 0, To: top}, true}, {[]api.Region{{From: 9, To: 5}}, 7, none, false},
	} {
		if got, ok := regions.Find(x.l, x.a); got != x.want || ok != x.ok {
			t.Errorf("P10.6: Find %#x: %v, %v", x.a, got, ok)
		}
	}
}

func TestGap(t *testing.T) {
	high := []api.Region{reg(1, end-2, 4, -1, 0)}
	for _, x := range []struct {
		l         []api.Region
		size, low uint64 // in pages
		want      uint64
		e         api.Errno
	}{
		{rf, 1, 0, 0, api.OK}, {rf, 1, 1, 3, api.OK}, {rf, 2, 1, 8, api.OK}, {rf, 2, 0, 8, api.OK}, {rf, 1, 2, 3, api.OK}, {rf, 1, 3, 3, api.OK}, {rf, 2, 3, 8, api.OK}, {rf, 1, 4, 8, api.OK}, {rf, 1, 8, 8, api.OK}, {rf, 5, 99, 99, api.OK},
		{rf, 0, 0, 0, api.ErrArg}, {rf, 1, end, 0, api.ErrNoMem}, {rf, 1, end - 1, end - 1, api.OK}, {rf, 2, end - 1, 0, api.ErrNoMem}, {rf, 1, 1<<52 - 1, 0, api.ErrNoMem}, {nil, end, 0, 0, api.OK}, {nil, end + 1, 0, 0, api.ErrNoMem}, {nil, 1<<52 - 1, 1<<52 - 1, 0, api.ErrNoMem}, {nil, 1<<52 - 1, 1, 0, api.ErrNoMem},
		{high, 1, 0, 0, api.OK}, {high, 2, 0, end - 2, api.OK}, {high, 3, 0, 0, api.ErrNoMem}, {high, 2, 7, end - 2, api.OK}, {[]api.Region{reg(0, end, 4, -1, 0)}, 1, 0, 0, api.ErrNoMem},
	} {
		if got, e := regions.Gap(x.l, x.size*page, x.low*page); got != x.want*page || e != x.e {
			t.Errorf("P10.7: Gap of %d from %d: %d, %d", x.size, x.low, got/page, e)
		}
	}
	for _, x := range [][2]uint64{{1, 0}, {page, 1}, {page + 1, page}, {top, 0}, {page, top}} {
		if got, e := regions.Gap(rf, x[0], x[1]); got != 0 || e != api.ErrArg {
			t.Errorf("P10.7: Gap of %d from %d: %d, %d", x[0], x[1], got, e)
		}
	}
}

// cell is what a page of a space has; the zero cell is none.
type cell struct {
	there bool
	prot  uint8
	ino   int
	off   uint64
}

func cells(l []api.Region) [40]cell {
	var out [40]cell
	for i := range out {
		a := uint64(i) * page
		if r, ok := regions.Find(l, a); ok {
			c := cell{true, r.Prot, r.Ino, r.Off}
			if r.Ino >= 0 {
				c.off += a - r.From
			}
			out[i] = c
		}
	}
	return out
}

// TestPages holds Put, Cut, Protect and Gap against a list of pages.
func TestPages(t *testing.T) {
	r := rand.New(rand.NewSource(10))
	var l []api.Region
	for step := range 8000 {
		want := cells(l)
		from := uint64(r.Intn(39))
		to := from + 1 + uint64(r.Intn(min(6, int(39-from))))
		x := reg(from, to, uint8(r.Intn(2)), -1+r.Intn(2), 0)
		if x.Ino >= 0 {
			x.Off = from * page
		}
		var got []api.Region
		var e api.Errno
		switch r.Intn(3) {
		case 0:
			got, e = regions.Put(l, x)
			for i := from; i < to; i++ {
				want[i] = cell{true, x.Prot, x.Ino, x.Off + (i-from)*page*uint64(x.Ino+1)}
			}
		case 1:
			got, e = regions.Cut(l, x.From, x.To)
			for i := from; i < to; i++ {
				want[i] = cell{}
			}
		default:
			got, e = regions.Protect(l, x.From, x.To, x.Prot)
			for i := from; i < to; i++ {
				if !want[i].there {
					want = cells(l)
					if e != api.ErrFault {
						t.Fatalf("P10.5: step %d: %d", step, e)
					}
					got, e = l, api.OK
					break
				}
				want[i].prot = x.Prot
			}
		}
		if e != api.OK || !regions.Right(got) || cells(got) != want {
			t.Fatalf("step %d: %v, %d", step, got, e)
		}
		l = got
		gap, e := regions.Gap(l, x.To-x.From, x.From)
		low := x.From
		for ; ; low += page {
			if cut, _ := regions.Cut(l, low, low+x.To-x.From); slices.Equal(cut, l) {
				break
			}
		}
		if gap != low || e != api.OK {
			t.Fatalf("P10.7: step %d: %d, want %d", step, gap/page, low/page)
		}
	}
}
