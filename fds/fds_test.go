package fds_test

import (
	"math/rand"
	"slices"
	"testing"

	"hostel/api"
	"hostel/fds"
)

func slot(ino, pos int, cloexec bool) api.Slot {
	return api.Slot{Used: true, Ino: ino, Pos: pos, Cloexec: cloexec}
}

func at(t *testing.T, table *fds.Table, fd int, want api.Slot, e api.Errno) {
	t.Helper()
	if got, err := table.At(fd); got != want || err != e {
		t.Errorf("At(%d): %+v, %d", fd, got, err)
	}
}

func open(t *testing.T, table *fds.Table, ino int, cloexec bool, want int, e api.Errno) {
	t.Helper()
	if fd, err := table.Open(ino, cloexec); fd != want || err != e {
		t.Errorf("P5.1: Open(%d, %v): %d, %d", ino, cloexec, fd, err)
	}
}

func same(t *testing.T, what string, got, want api.Errno) {
	t.Helper()
	if got != want {
		t.Errorf("%s: %d, want %d", what, got, want)
	}
}

func TestOpen(t *testing.T) {
	table := fds.New()
	if got := table.List(); !slices.Equal(got, make([]api.Slot, 16)) {
		t.Errorf("P5.1: New: %v", got)
	}
	open(t, table, -1, false, 0, api.ErrArg)
	for i := range 16 {
		open(t, table, 100+i, i%3 == 0, i, api.OK)
	}
	for i := range 16 {
		at(t, table, i, slot(100+i, 0, i%3 == 0), api.OK)
	}
	open(t, table, 5, false, 0, api.ErrMany)
	open(t, table, -1, false, 0, api.ErrArg)
	same(t, "P5.2: Close(7)", table.Close(7), api.OK)
	same(t, "P5.2: Close(3)", table.Close(3), api.OK)
	open(t, table, 0, true, 3, api.OK)
	open(t, table, 6, false, 7, api.OK)
	open(t, table, 6, false, 0, api.ErrMany)
	at(t, table, 3, slot(0, 0, true), api.OK)
}

func TestCloseAtMove(t *testing.T) {
	table := fds.New()
	open(t, table, 3, false, 0, api.OK)
	open(t, table, 4, true, 1, api.OK)
	same(t, "P5.2: Close(0)", table.Close(0), api.OK)
	same(t, "P5.2: Close(0) again", table.Close(0), api.ErrFd)
	at(t, table, 0, api.Slot{}, api.ErrFd)
	open(t, table, 5, false, 0, api.OK)
	for _, fd := range []int{-1, 2, 7, 15, 16, 17, 1 << 40, -1 << 63} {
		same(t, "P5.2: Close", table.Close(fd), api.ErrFd)
		same(t, "P5.2: Move", table.Move(fd, 0), api.ErrFd)
		same(t, "P5.2: Move", table.Move(fd, -1), api.ErrFd)
		at(t, table, fd, api.Slot{}, api.ErrFd)
	}
	same(t, "P5.2: Move", table.Move(0, 65536), api.OK)
	same(t, "P5.2: Move", table.Move(0, 65537), api.ErrArg)
	same(t, "P5.2: Move", table.Move(0, -1), api.ErrArg)
	at(t, table, 0, slot(5, 65536, false), api.OK)
	same(t, "P5.2: Move", table.Move(1, 17), api.OK)
	same(t, "P5.2: Move", table.Move(0, 0), api.OK)
	at(t, table, 0, slot(5, 0, false), api.OK)
	at(t, table, 1, slot(4, 17, true), api.OK)
	same(t, "P5.2: Close(1)", table.Close(1), api.OK)
	open(t, table, 9, false, 1, api.OK)
	at(t, table, 1, slot(9, 0, false), api.OK)
}

func TestSweepForkList(t *testing.T) {
	table := fds.New()
	for i := range 6 {
		open(t, table, i, i%2 == 1, i, api.OK)
		same(t, "Move", table.Move(i, 10*i), api.OK)
	}
	child := table.Fork()
	if !slices.Equal(child.List(), table.List()) {
		t.Errorf("P5.3: Fork: %v", child.List())
	}
	child.Sweep()
	want := make([]api.Slot, 16)
	for i := 0; i < 6; i += 2 {
		want[i] = slot(i, 10*i, false)
	}
	if got := child.List(); !slices.Equal(got, want) {
		t.Errorf("P5.3: Sweep: %v", got)
	}
	for i := range 6 {
		at(t, table, i, slot(i, 10*i, i%2 == 1), api.OK)
	}
	open(t, child, 9, true, 1, api.OK)
	same(t, "P5.3: the parent's", table.Close(0), api.OK)
	same(t, "P5.3: the parent's", table.Move(2, 1), api.OK)
	at(t, child, 0, slot(0, 0, false), api.OK)
	at(t, child, 2, slot(2, 20, false), api.OK)
	at(t, table, 1, slot(1, 10, true), api.OK)
	child.List()[0] = api.Slot{}
	at(t, child, 0, slot(0, 0, false), api.OK)
}

func TestNil(t *testing.T) {
	var table *fds.Table
	open(t, table, 1, true, 0, api.ErrNil)
	open(t, table, -1, true, 0, api.ErrNil)
	same(t, "P5.2: Close of nil", table.Close(0), api.ErrNil)
	same(t, "P5.2: Move of nil", table.Move(99, -1), api.ErrNil)
	at(t, table, 0, api.Slot{}, api.ErrNil)
	table.Sweep()
	if table.Fork() != nil || len(table.List()) != 0 {
		t.Error("P5.3: of nil")
	}
}

func TestWhatWasOpenedIsThere(t *testing.T) {
	r := rand.New(rand.NewSource(5))
	table, model := fds.New(), make([]api.Slot, 16)
	for step := range 5000 {
		fd := r.Intn(18) - 1
		there := fd >= 0 && fd < 16 && model[fd].Used
		switch r.Intn(12) {
		case 0:
			if (table.Close(fd) == api.OK) != there {
				t.Fatalf("P5.2: step %d", step)
			}
			if there {
				model[fd] = api.Slot{}
			}
		case 1:
			if (table.Move(fd, step) == api.OK) != there {
				t.Fatalf("P5.2: step %d", step)
			}
			if there {
				model[fd].Pos = step
			}
		case 2:
			if r.Intn(9) == 0 {
				table.Sweep()
				for i, s := range model {
					if s.Cloexec {
						model[i] = api.Slot{}
					}
				}
			}
		case 3:
			table = table.Fork()
		default:
			free := slices.IndexFunc(model, func(s api.Slot) bool { return !s.Used })
			got, e := table.Open(step, step%5 == 0)
			if (e == api.OK) != (free >= 0) || e == api.OK && got != free {
				t.Fatalf("P5.1: step %d: %d, %d", step, got, e)
			}
			if free >= 0 {
				model[free] = slot(step, 0, step%5 == 0)
			}
		}
		if !slices.Equal(table.List(), model) {
			t.Fatalf("P5.3: step %d: %v", step, table.List())
		}
	}
}
