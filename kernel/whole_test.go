package kernel_test

import (
	"bytes"
	"math/rand"
	"reflect"
	"slices"
	"testing"

	"hostel/api"
	"hostel/calls"
	"hostel/creds"
	"hostel/image"
	"hostel/kernel"
	"hostel/regions"
	"hostel/vfs"
)

// memory is a list of pages of its own, filled from the files when they are asked for, without frames.
type memory struct {
	files *vfs.FS
	regs  []api.Region
	pages map[uint64][]byte
}

func (m *memory) page(at uint64) []byte {
	if m.pages[at] == nil {
		b := make([]byte, api.Page)
		if r, _ := regions.Find(m.regs, at); r.Ino >= 0 && r.Off+at-r.From < api.MaxFile {
			data, _ := m.files.Read(r.Ino, int(r.Off+at-r.From), api.Page)
			copy(b, data)
		}
		m.pages[at] = b
	}
	return m.pages[at]
}

func (m *memory) drop(from, to uint64) {
	for at := range m.pages {
		if from <= at && at < to {
			delete(m.pages, at)
		}
	}
}

func (m *memory) permits(addr, n uint64, want uint8) bool {
	for at := addr; at < addr+n; at = at/api.Page*api.Page + api.Page {
		if r, ok := regions.Find(m.regs, at); !ok || r.Prot&want != want {
			return false
		}
	}
	return addr <= api.UserEnd && n <= api.UserEnd-addr
}

func (m *memory) poke(addr uint64, b []byte) {
	for i, x := range b {
		at := addr + uint64(i)
		m.page(at / api.Page * api.Page)[at%api.Page] = x
	}
}

func (m *memory) peek(addr, n uint64) []byte {
	var out []byte
	for at := addr; at < addr+n; at++ {
		out = append(out, m.page(at / api.Page * api.Page)[at%api.Page])
	}
	return out
}

// need is how many pages are there, together with some others, and how many nodes of tables are over them.
func (m *memory) need(others map[uint64]bool) int {
	told := map[[2]uint64]bool{{48, 0}: true}
	tell := func(at uint64) {
		for _, shift := range []uint64{12, 21, 30, 39} {
			told[[2]uint64{shift, at >> shift}] = true
		}
	}
	for at := range m.pages {
		tell(at)
	}
	for at := range others {
		tell(at)
	}
	return len(told)
}

// proc is a process that shares nothing.
type proc struct {
	parent    int
	ended     bool
	code      uint64
	mem       *memory
	creds     api.Creds
	fds       [api.MaxFds]api.Slot
	entry, sp uint64
	secure    bool
}

// model are processes that share nothing.
type model struct {
	files *vfs.FS
	procs map[int]*proc
}

func newModel(c api.Config) *model {
	files, _, _ := vfs.New(c.Entries)
	m := &model{files, map[int]*proc{1: {creds: c.Creds}}}
	m.exec(m.procs[1], api.Call{Path: c.Path, Argv: c.Argv, Env: c.Env})
	return m
}

func (m *model) exec(p *proc, c api.Call) api.Errno {
	plan, e := image.Make(m.files, p.creds, c.Path, c.Argv, c.Env)
	if e != api.OK {
		return e
	}
	p.mem = &memory{m.files, nil, map[uint64][]byte{}}
	for _, x := range plan.Pieces {
		p.mem.regs, _ = regions.Put(p.mem.regs, api.Region(x))
	}
	for _, w := range plan.Writes {
		p.mem.poke(w.Addr, w.Bytes)
	}
	p.creds, p.entry, p.sp, p.secure = plan.Creds, plan.Entry, plan.Sp, plan.Secure
	for i, s := range p.fds {
		if s.Cloexec {
			p.fds[i] = api.Slot{}
		}
	}
	return api.OK
}

func (m *model) exit(pid int, code uint64) {
	p := m.procs[pid]
	*p = proc{parent: p.parent, ended: true, code: code}
	heir := 0
	if first := m.procs[1]; first != nil && !first.ended {
		heir = 1
	}
	for _, q := range m.procs {
		if q.parent == pid {
			q.parent = heir
		}
	}
	for number, q := range m.procs {
		if q.ended && q.parent == 0 {
			delete(m.procs, number)
		}
	}
}

func (m *model) fork(pid int) api.Result {
	for number := 1; number <= api.MaxProcs; number++ {
		if m.procs[number] != nil {
			continue
		}
		p := m.procs[pid]
		child := *p
		child.parent = pid
		child.mem = &memory{m.files, p.mem.regs, map[uint64][]byte{}}
		for at, b := range p.mem.pages {
			child.mem.pages[at] = slices.Clone(b)
		}
		m.procs[number] = &child
		return api.Result{Value: uint64(number)}
	}
	return api.Result{Err: api.ErrMany}
}

func (m *model) wait(pid int) api.Result {
	e := api.ErrChild
	for number := 1; number <= api.MaxProcs; number++ {
		if q := m.procs[number]; q != nil && q.parent == pid {
			if q.ended {
				delete(m.procs, number)
				b := make([]byte, 8)
				for i := range b {
					b[i] = byte(q.code >> (8 * i))
				}
				return api.Result{Value: uint64(number), Bytes: b}
			}
			e = api.ErrAgain
		}
	}
	return api.Result{Err: e}
}

func (m *model) mapped(p *proc, c api.Call) api.Result {
	if c.B == 0 || c.B > 1<<64-4096 || c.C > 7 {
		return api.Result{Err: api.ErrArg}
	}
	size, r := (c.B+4095)/4096*4096, api.Region{Prot: uint8(c.C), Ino: -1, Off: c.E}
	if c.D > 0 {
		if c.D > api.MaxFds || !p.fds[c.D-1].Used {
			return api.Result{Err: api.ErrFd}
		}
		r.Ino = p.fds[c.D-1].Ino
	} else if c.E != 0 {
		return api.Result{Err: api.ErrArg}
	}
	r.From = c.A
	if c.A == 0 {
		at, e := regions.Gap(p.mem.regs, size, api.MapBase)
		if e != api.OK {
			return api.Result{Err: e}
		}
		r.From = at
	}
	if r.To = r.From + size; r.To < r.From {
		return api.Result{Err: api.ErrArg}
	}
	l, e := regions.Put(p.mem.regs, r)
	if e != api.OK {
		return api.Result{Err: e}
	}
	p.mem.regs = l
	p.mem.drop(r.From, r.To)
	return api.Result{Value: r.From}
}

// stretch is an unmap or a protect.
func (m *model) stretch(p *proc, c api.Call) api.Errno {
	size := (c.B + 4095) / 4096 * 4096
	if c.B == 0 || size < c.B || c.C > 7 || c.A+size < c.A {
		return api.ErrArg
	}
	var l []api.Region
	var e api.Errno
	if c.Kind == api.CallUnmap {
		l, e = regions.Cut(p.mem.regs, c.A, c.A+size)
	} else {
		l, e = regions.Protect(p.mem.regs, c.A, c.A+size, uint8(c.C))
	}
	if e != api.OK {
		return e
	}
	p.mem.regs = l
	if c.Kind == api.CallUnmap {
		p.mem.drop(c.A, c.A+size)
	}
	return api.OK
}

func (m *model) open(p *proc, c api.Call) api.Result {
	ino, e := m.files.Walk(p.creds, 0, c.Path, true)
	if e != api.OK {
		return api.Result{Err: e}
	}
	meta, _ := m.files.Meta(ino)
	if meta.Kind == api.NodeDir {
		return api.Result{Err: api.ErrIsDir}
	}
	if !creds.May(p.creds, meta, api.CanRead) {
		return api.Result{Err: api.ErrAccess}
	}
	for i, s := range p.fds {
		if !s.Used {
			p.fds[i] = api.Slot{Used: true, Ino: ino, Cloexec: c.A == 1}
			return api.Result{Value: uint64(i)}
		}
	}
	return api.Result{Err: api.ErrMany}
}

func (m *model) do(pid int, c api.Call) api.Result {
	if e := calls.Check(c); e != api.OK {
		return api.Result{Err: e}
	}
	p := m.procs[pid]
	if p == nil || p.ended {
		return api.Result{Err: api.ErrPid}
	}
	switch c.Kind {
	case api.CallExec:
		return api.Result{Err: m.exec(p, c)}
	case api.CallFork:
		return m.fork(pid)
	case api.CallExit:
		m.exit(pid, c.A)
	case api.CallWait:
		return m.wait(pid)
	case api.CallMap:
		return m.mapped(p, c)
	case api.CallUnmap, api.CallProtect:
		return api.Result{Err: m.stretch(p, c)}
	case api.CallLoad:
		if !p.mem.permits(c.A, c.B, api.CanRead) {
			return api.Result{Err: api.ErrFault}
		}
		return api.Result{Bytes: p.mem.peek(c.A, c.B)}
	case api.CallStore:
		if len(c.Bytes) > 0 && !p.mem.permits(c.A, uint64(len(c.Bytes)), api.CanWrite) {
			return api.Result{Err: api.ErrFault}
		}
		p.mem.poke(c.A, c.Bytes)
	case api.CallOpen:
		return m.open(p, c)
	case api.CallClose, api.CallRead:
		if c.A >= api.MaxFds || !p.fds[c.A].Used {
			return api.Result{Err: api.ErrFd}
		}
		if c.Kind == api.CallClose {
			p.fds[c.A] = api.Slot{}
			break
		}
		b, _ := m.files.Read(p.fds[c.A].Ino, p.fds[c.A].Pos, int(c.B))
		p.fds[c.A].Pos += len(b)
		return api.Result{Bytes: b}
	}
	return api.Result{}
}

// list is what is seen of all processes.
func (m *model) list() []api.Proc {
	var out []api.Proc
	for number := 1; number <= api.MaxProcs; number++ {
		p := m.procs[number]
		switch {
		case p == nil:
		case p.ended:
			out = append(out, api.Proc{Pid: number, Parent: p.parent, State: api.StEnded, Code: p.code})
		default:
			out = append(out, api.Proc{Pid: number, Parent: p.parent, State: api.StRuns, Creds: p.creds, Fds: p.fds[:], Regions: p.mem.regs, Entry: p.entry, Sp: p.sp, Secure: p.secure})
		}
	}
	return out
}

func (m *model) need() int {
	n := 0
	for _, p := range m.procs {
		if !p.ended {
			n += p.mem.need(nil)
		}
	}
	return n
}

// count does a step, and tells how many pages and nodes there are ahead of it and behind it, taken together.
func (m *model) count(s api.Step) (api.Result, int) {
	old := map[*memory]map[uint64]bool{}
	if p := m.procs[s.Pid]; p != nil && !p.ended {
		old[p.mem] = map[uint64]bool{}
		for at := range p.mem.pages {
			old[p.mem][at] = true
		}
	}
	r := m.do(s.Pid, s.Call)
	for _, p := range m.procs {
		if !p.ended && old[p.mem] == nil {
			old[p.mem] = map[uint64]bool{}
		}
	}
	taken := 0
	for mem, others := range old {
		taken += mem.need(others)
	}
	return r, taken
}

// chance is a step, made by chance. The number 1 ends seldom.
func chance(r *rand.Rand) api.Step {
	places := []uint64{mb, mb + 0x1000, mb + 0x2000, mb + 0x5000, 0x400000, 0x410000, 0x420000, 0x421000, api.StackTop - 0x1000, api.StackTop - 0x3000, api.LibBase + 0x20000, api.MainBase + 0x20000, 0, 1<<47 - 0x1000, top - 4095, mb + 1<<30, mb + 1<<39}
	paths := []string{"/bin/a", "/bin/a", "/bin/set", "/bin/d", "/s", "/nowhere", "/bin", "/long", "/long", "/empty", "/secret", "/link", "/own", "lib/c", ""}
	place, page := places[r.Intn(len(places))], uint64(r.Intn(3))*4096
	any := place + page + uint64(r.Intn(4)*r.Intn(4096))
	size := uint64(1 + r.Intn(3*4096))
	path := paths[r.Intn(len(paths))]
	s := api.Step{Pid: 1 + r.Intn(1+r.Intn(8))}
	switch r.Intn(20) {
	case 0, 1:
		s.Call = fork
	case 2:
		s.Call = exit(r.Uint64())
		if s.Pid == 1 && r.Intn(9) > 0 {
			s.Call = wait
		}
	case 3:
		s.Call = wait
	case 4:
		s.Call = exec(path, "a", "b")
	case 5, 6:
		s.Call = mapped(place*uint64(r.Intn(2)), size, uint64(r.Intn(8)), uint64(r.Intn(2)*r.Intn(5)), 0)
		if s.Call.D > 0 {
			s.Call.E = uint64(r.Intn(18)) * 4096
		}
		s.Call.C |= uint64(r.Intn(2)) * 6
	case 7:
		s.Call = unmap(place+page, size)
	case 8:
		s.Call = protect(place+page, size, uint64(r.Intn(8)))
	case 9, 10, 11, 12:
		s.Call = load(any, uint64(r.Intn(2)*r.Intn(4097)+r.Intn(3)))
	case 13, 14, 15, 16:
		s.Call = store(any, string(bytes.Repeat([]byte{byte(r.Intn(255) + 1)}, r.Intn(2)*r.Intn(4097)+r.Intn(3))))
	case 17:
		s.Call = open(path, uint64(r.Intn(2)))
	case 18:
		s.Call = closed(uint64(r.Intn(5)))
	default:
		s.Call = read(uint64(r.Intn(5)), uint64(r.Intn(4097)))
	}
	if r.Intn(60) == 0 {
		s.Call = number(uint8(r.Intn(16)), r.Uint64()>>r.Intn(64), r.Uint64()>>r.Intn(64), r.Uint64()>>r.Intn(64), r.Uint64()>>r.Intn(64), r.Uint64()>>r.Intn(64))
	}
	return s
}

func sameResult(a, b api.Result) bool {
	return a.Err == b.Err && a.Value == b.Value && bytes.Equal(a.Bytes, b.Bytes)
}

// sameProc says whether two are the same; nil and empty lists are.
func sameProc(a, b api.Proc) bool {
	lists := slices.Equal(a.Fds, b.Fds) && slices.Equal(a.Regions, b.Regions) && creds.Same(a.Creds, b.Creds)
	a.Fds, a.Regions, a.Creds, b.Fds, b.Regions, b.Creds = nil, nil, api.Creds{}, nil, nil, api.Creds{}
	return lists && reflect.DeepEqual(a, b)
}

// counted holds each frame's count against what points to it (W7).
func counted(t *testing.T, k *kernel.Kernel) {
	t.Helper()
	want := map[int]int{}
	for _, p := range k.Procs() {
		if s := k.Space(p.Pid); s != nil {
			for _, put := range s.Table().All() {
				want[put.Leaf.Frame]++
			}
			for _, n := range s.Table().Nodes() {
				want[n]++
			}
		}
	}
	for _, slot := range k.Cache().Slots() {
		want[slot.Frame]++
	}
	for f := range k.Cache().Pool().Size() {
		if k.Cache().Pool().Count(f) != want[f] {
			t.Fatalf("W7: the frame %d is counted %d times, want %d", f, k.Cache().Pool().Count(f), want[f])
		}
	}
}

// filesStay holds the cache and the files against what they were made of (W6).
func filesStay(t *testing.T, k *kernel.Kernel) {
	t.Helper()
	c := k.Cache()
	for i, x := range entries() {
		if b, e := c.Files().Read(i+1, 0, api.MaxFile); e == api.OK && !bytes.Equal(b, x.Data) {
			t.Fatalf("W6: the file %s", x.Path)
		}
	}
	for _, slot := range c.Slots() {
		want := make([]byte, api.Page)
		b, _ := c.Files().Read(slot.Ino, slot.Page*api.Page, api.Page)
		copy(want, b)
		if got, _ := c.Pool().Load(slot.Frame, 0, api.Page); !bytes.Equal(got, want) {
			t.Fatalf("W6: the slot %v", slot)
		}
	}
}

// end lets all processes end: then all frames are free (W7).
func end(t *testing.T, k *kernel.Kernel) {
	t.Helper()
	for pid := api.MaxProcs; pid >= 1; pid-- {
		k.Do(pid, exit(0))
	}
	k.Cache().Drop()
	if len(k.Procs()) != 0 || k.Cache().Pool().Free() != k.Cache().Pool().Size() {
		t.Fatalf("W7: %d processes, %d of %d frames are free", len(k.Procs()), k.Cache().Pool().Free(), k.Cache().Pool().Size())
	}
}

// agree holds a kernel against processes that share nothing, after a step.
func agree(t *testing.T, k *kernel.Kernel, m *model, step int) {
	t.Helper()
	if !slices.EqualFunc(k.Procs(), m.list(), sameProc) {
		t.Fatalf("W1: step %d: %+v, want %+v", step, k.Procs(), m.list())
	}
	for number, p := range m.procs {
		if p.ended {
			continue
		}
		for at, want := range p.mem.pages {
			if got, e := k.Peek(number, at, api.Page); e != api.OK || !bytes.Equal(got, want) {
				t.Fatalf("W1: step %d: the page %#x of %d: %d", step, at, number, e)
			}
		}
	}
}

// TestPrivateAndEnough runs scripts made by chance: each step is answered as processes that share nothing
// would answer it, up to the first ErrNoMem (W1), which comes only where W8 lets it come.
func TestPrivateAndEnough(t *testing.T) {
	failed, done := 0, 0
	for seed := range int64(140) {
		r := rand.New(rand.NewSource(seed))
		frames := []int{20, 30, 45, 70, 110, 300, 1024}[seed%7]
		m := newModel(config(1))
		most := m.need()
		k, e := kernel.New(config(frames))
		if e != api.OK {
			if e != api.ErrNoMem || most <= frames-8 {
				t.Fatalf("W8: of %d frames: %d", frames, e)
			}
			failed++
			continue
		}
		for step := range 250 {
			s := chance(r)
			want, taken := m.count(s)
			most = max(most, taken)
			got := k.Do(s.Pid, s.Call)
			if !sameResult(got, want) {
				if got.Err != api.ErrNoMem || most <= frames-8 {
					t.Fatalf("W1, W8: seed %d, step %d, %d does %+v: %+v, want %+v (%d of %d frames)", seed, step, s.Pid, s.Call, got, want, most, frames)
				}
				failed++
				counted(t, k)
				for range 60 {
					s := chance(r)
					k.Do(s.Pid, s.Call)
					counted(t, k)
				}
				break
			}
			done++
			if step%25 == 0 {
				counted(t, k)
				filesStay(t, k)
				need := 0
				for _, p := range k.Procs() {
					if x := k.Space(p.Pid); x != nil {
						need += len(x.Table().All()) + len(x.Table().Nodes())
					}
				}
				if need != m.need() {
					t.Fatalf("P27.4: step %d: %d pages and nodes, want %d", step, need, m.need())
				}
			}
			if step%50 == 0 && most <= frames-8 {
				agree(t, k, m, step)
			}
			if len(m.procs) == 0 {
				break
			}
		}
		counted(t, k)
		filesStay(t, k)
		end(t, k)
	}
	if failed < 10 || done < 5000 {
		t.Errorf("%d times ErrNoMem, %d steps: the scripts say too little", failed, done)
	}
}

// TestEnough: with just 8 frames more than there are pages and nodes at any step no step is answered
// ErrNoMem that processes that share nothing would not be answered (W8).
func TestEnough(t *testing.T) {
	for seed := range int64(60) {
		r := rand.New(rand.NewSource(5000 + seed))
		m := newModel(config(1))
		most := m.need()
		var l []api.Step
		var want []api.Result
		for range 120 {
			s := chance(r)
			before := most
			result, taken := m.count(s)
			if most = max(before, taken); most > api.MaxFrames-8 {
				break
			}
			l, want = append(l, s), append(want, result)
		}
		k, e := kernel.New(config(min(most+8, api.MaxFrames)))
		if e != api.OK {
			t.Fatalf("W8: seed %d: %d", seed, e)
		}
		for step, got := range k.Run(l) {
			if !sameResult(got, want[step]) {
				t.Fatalf("W8: seed %d, step %d of %d frames, %+v: %+v, want %+v", seed, step, most+8, l[step], got, want[step])
			}
		}
		counted(t, k)
	}
}
