package creds_test

import (
	"slices"
	"testing"

	"hostel/api"
	"hostel/creds"
)

func who(uid, euid, suid, gid uint32, groups ...uint32) api.Creds {
	return api.Creds{Uid: uid, Euid: euid, Suid: suid, Gid: gid, Groups: groups}
}

func node(kind uint8, mode uint16) api.Meta {
	return api.Meta{Kind: kind, Mode: mode, Uid: 7, Gid: 8}
}

var file = node(api.NodeFile, 0o4750)

func TestCheck(t *testing.T) {
	for n, want := range map[int]api.Errno{0: api.OK, 1: api.OK, 8: api.OK, 9: api.ErrMany, 100: api.ErrMany} {
		if e := creds.Check(who(1, 2, 3, 4, make([]uint32, n)...)); e != want {
			t.Errorf("P4.1: %d groups: %d", n, e)
		}
	}
	if e := creds.Check(api.Creds{}); e != api.OK {
		t.Errorf("P4.1: the zero credentials: %d", e)
	}
}

func TestClass(t *testing.T) {
	for _, x := range []struct {
		c    api.Creds
		want int
	}{
		{who(7, 7, 7, 1), 0}, {who(1, 1, 1, 8), 1}, {who(1, 1, 1, 1, 8), 1}, {who(1, 1, 1, 1), 2}, {who(7, 1, 1, 1), 2}, {who(1, 1, 7, 1), 2}, {who(1, 7, 1, 8), 0}, {who(1, 1, 1, 1, 2, 3, 8), 1}, {who(1, 1, 1, 1, 7), 2}, {who(0, 0, 0, 0), 2}, {who(8, 8, 8, 7), 2}, {who(0, 0, 0, 8), 1}, {who(1, 1, 1, 1, 1, 2, 3, 4, 5, 6, 9, 10, 11, 8), 1},
	} {
		if got := creds.Class(x.c, file); got != x.want {
			t.Errorf("P4.2: %v: %d", x.c, got)
		}
	}
	if creds.Class(who(0, 0, 0, 0), api.Meta{Uid: 0, Gid: 3}) != 0 {
		t.Error("P4.2: the owner 0")
	}
}

func TestMay(t *testing.T) {
	for _, x := range []struct {
		c    api.Creds
		m    api.Meta
		want uint8
		may  bool
	}{
		{who(7, 7, 7, 1), file, 7, true}, {who(1, 1, 1, 8), file, 5, true}, {who(1, 1, 1, 8), file, 2, false}, {who(1, 1, 1, 8), file, 7, false}, {who(1, 1, 1, 1), file, 0, true}, {who(1, 1, 1, 1), file, 4, false}, {who(1, 1, 1, 1), file, 1, false},
		{who(7, 7, 7, 1), file, 8, false}, {who(0, 0, 0, 0), file, 8, false}, {who(0, 0, 0, 0), file, 255, false}, {who(7, 7, 7, 1), file, 128, false},
		{who(1, 0, 1, 1), file, 7, true}, {who(0, 0, 0, 0), node(1, 0o644), 6, true}, {who(0, 0, 0, 0), node(1, 0o644), 1, false}, {who(0, 0, 0, 0), node(1, 0o644), 7, false}, {who(0, 0, 0, 0), node(2, 0), 7, true}, {who(0, 0, 0, 0), node(1, 0), 6, true}, {who(0, 0, 0, 0), node(1, 0), 0, true},
		{who(0, 0, 0, 0), node(1, 0o001), 1, true}, {who(0, 0, 0, 0), node(1, 0o010), 1, true}, {who(0, 0, 0, 0), node(1, 0o100), 1, true}, {who(0, 0, 0, 0), node(1, 0o4666), 1, false}, {who(0, 0, 0, 0), node(3, 0o666), 1, false}, {who(0, 0, 0, 0), node(9, 0o001), 7, true}, {who(0, 0, 0, 0), node(0, 0), 1, false},
		{who(0, 1, 0, 0), node(1, 0o770), 1, false}, {who(0, 1, 0, 0), node(2, 0o770), 1, false},
		{who(7, 7, 7, 8, 8), node(1, 0o077), 4, false}, {who(7, 7, 7, 8, 8), node(1, 0o077), 0, true}, {who(1, 1, 1, 8), node(1, 0o707), 4, false}, {who(1, 1, 1, 1), node(1, 0o770), 1, false}, {who(1, 1, 1, 1), node(1, 0o005), 5, true}, {who(1, 1, 1, 1), node(1, 0o005), 2, false}, {who(1, 1, 1, 1, 8), node(1, 0o020), 2, true}, {who(7, 7, 7, 7), node(1, 0o200), 2, true}, {who(7, 7, 7, 7), node(1, 0o200), 6, false},
	} {
		if got := creds.May(x.c, x.m, x.want); got != x.may {
			t.Errorf("P4.3: %v of %+v, %d: %v", x.c, x.m, x.want, got)
		}
	}
}

func TestMayBitByBit(t *testing.T) {
	for _, c := range []api.Creds{who(7, 7, 7, 8), who(1, 1, 1, 8), who(1, 1, 1, 1), who(1, 1, 1, 1, 8), who(0, 0, 0, 0)} {
		for mode := range uint16(0o1000) {
			m := node(api.NodeFile, mode)
			for want := range uint8(8) {
				all := true
				for _, bit := range []uint8{1, 2, 4} {
					all = all && (want&bit == 0 || creds.May(c, m, bit))
				}
				if creds.May(c, m, want) != all {
					t.Fatalf("P4.3: %v, %o, %d", c, mode, want)
				}
				if class := creds.Class(c, m); c.Euid != 0 && all != (mode>>(6-3*class)&uint16(want) == uint16(want)) {
					t.Fatalf("P4.3: %v, %o, %d: %v", c, mode, want, all)
				}
			}
		}
	}
}

func TestLend(t *testing.T) {
	for _, x := range []struct {
		c    api.Creds
		m    api.Meta
		want api.Creds
		lent bool
	}{
		{who(1, 1, 1, 1), file, who(1, 7, 7, 1), true}, {who(7, 7, 1, 1), file, who(7, 7, 7, 1), false}, {who(1, 2, 3, 4), node(1, 0o755), who(1, 2, 2, 4), false}, {who(1, 1, 1, 1), node(2, 0o4755), who(1, 1, 1, 1), false}, {who(1, 2, 3, 4), node(2, 0o4755), who(1, 2, 2, 4), false}, {who(1, 2, 3, 4), node(3, 0o4755), who(1, 2, 2, 4), false}, {who(1, 2, 3, 4), node(9, 0o4755), who(1, 2, 2, 4), false},
		{who(1, 2, 3, 4, 5, 6), node(1, 0o4000), who(1, 7, 7, 4, 5, 6), true}, {who(7, 0, 0, 4), file, who(7, 7, 7, 4), true}, {who(1, 2, 3, 4), node(1, 0o3777), who(1, 2, 2, 4), false},
		{who(5, 5, 5, 5), api.Meta{Kind: 1, Mode: 0o4000, Uid: 0}, who(5, 0, 0, 5), true},
	} {
		got, lent := creds.Lend(x.c, x.m)
		if !creds.Same(got, x.want) || lent != x.lent {
			t.Errorf("P4.4: %v by %+v: %v, %v", x.c, x.m, got, lent)
		}
		if again, more := creds.Lend(got, x.m); !creds.Same(again, got) || more {
			t.Errorf("P4.4: Lend again: %v, %v", again, more)
		}
	}
	c := who(1, 2, 3, 4, 5, 6)
	got, _ := creds.Lend(c, file)
	got.Groups[0] = 99
	if !slices.Equal(c.Groups, []uint32{5, 6}) {
		t.Error("R3: the groups are shared")
	}
}

func TestSame(t *testing.T) {
	c := who(1, 2, 3, 4, 5, 6)
	if !creds.Same(c, who(1, 2, 3, 4, 5, 6)) || !creds.Same(who(1, 2, 3, 4), api.Creds{Uid: 1, Euid: 2, Suid: 3, Gid: 4, Groups: []uint32{}}) {
		t.Error("P4.5: the same")
	}
	for _, other := range []api.Creds{who(9, 2, 3, 4, 5, 6), who(1, 9, 3, 4, 5, 6), who(1, 2, 9, 4, 5, 6), who(1, 2, 3, 9, 5, 6), who(1, 2, 3, 4, 6, 5), who(1, 2, 3, 4, 5), who(1, 2, 3, 4, 5, 6, 6), who(1, 2, 3, 4)} {
		if creds.Same(c, other) || creds.Same(other, c) {
			t.Errorf("P4.5: %v", other)
		}
	}
}
