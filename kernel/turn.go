package kernel

import (
	"hostel/api"
	"hostel/creds"
	"hostel/execve"
	"hostel/regions"
	"hostel/words"
)

const (
	noFile   = -1
	allProt  = 7
	codeSize = 8
)

// turn is one process at the moment of its call.
type turn struct {
	kernel *Kernel
	pid    int
	task   *execve.Task
}

func failed(e api.Errno) api.Result {
	return api.Result{Err: e}
}

// method is what does a call of a kind.
func (t turn) method(kind uint8) func(api.Call) api.Result {
	alone := func(do func(api.Call) api.Errno) func(api.Call) api.Result {
		return func(c api.Call) api.Result { return api.Result{Err: do(c)} }
	}
	switch kind {
	case api.CallExec:
		return alone(t.exec)
	case api.CallFork:
		return t.fork
	case api.CallExit:
		return alone(t.exit)
	case api.CallWait:
		return t.wait
	case api.CallMap:
		return t.mapped
	case api.CallUnmap:
		return alone(t.unmap)
	case api.CallProtect:
		return alone(t.protect)
	case api.CallLoad:
		return t.load
	case api.CallStore:
		return alone(t.store)
	case api.CallOpen:
		return t.open
	case api.CallClose:
		return alone(t.close)
	case api.CallRead:
		return t.read
	default:
		return alone(func(api.Call) api.Errno { return api.ErrCall })
	}
}

func (t turn) exec(c api.Call) api.Errno {
	return execve.Exec(t.kernel.cache, t.task, c.Path, c.Argv, c.Env)
}

func (t turn) fork(api.Call) api.Result {
	child, e := t.kernel.procs.Fork(t.pid)
	return api.Result{Err: e, Value: uint64(child)}
}

func (t turn) exit(c api.Call) api.Errno {
	return t.kernel.procs.Exit(t.pid, c.A)
}

func (t turn) wait(api.Call) api.Result {
	child, code, e := t.kernel.procs.Wait(t.pid)
	if e != api.OK {
		return failed(e)
	}
	b, _ := words.Set(make([]byte, codeSize), 0, codeSize, code)
	return api.Result{Value: uint64(child), Bytes: b}
}

// wholePages is a size rounded up; false, if that can't be, or it is 0.
func wholePages(size uint64) (uint64, bool) {
	up, ok := words.Up(size)
	return up, ok && size != 0
}

// mapFile is the inode of a descriptor that a map names, from 1 on; 0 stands for no file.
func (t turn) mapFile(c api.Call) (int, api.Errno) {
	if c.D > 0 {
		slot, e := t.slot(c.D - 1)
		return slot.Ino, e
	}
	if c.E != 0 {
		return 0, api.ErrArg
	}
	return noFile, api.OK
}

// place is where a map of so many bytes is to lie.
func (t turn) place(addr, size uint64) (uint64, api.Errno) {
	if addr != 0 {
		return addr, api.OK
	}
	return regions.Gap(t.task.Space.Regions(), size, api.MapBase)
}

func (t turn) mapped(c api.Call) api.Result {
	size, ok := wholePages(c.B)
	if !ok || c.C > allProt {
		return failed(api.ErrArg)
	}
	ino, e := t.mapFile(c)
	if e != api.OK {
		return failed(e)
	}
	from, e := t.place(c.A, size)
	if e != api.OK {
		return failed(e)
	}
	to, ok := words.Add(from, size)
	if !ok {
		return failed(api.ErrArg)
	}
	e = t.task.Space.Map(api.Region{From: from, To: to, Prot: uint8(c.C), Ino: ino, Off: c.E})
	if e != api.OK {
		return failed(e)
	}
	return api.Result{Value: from}
}

// end is the end of a stretch from an address on, of a size that is rounded up.
func end(addr, size uint64) (uint64, bool) {
	up, ok := wholePages(size)
	if !ok {
		return 0, false
	}
	return words.Add(addr, up)
}

func (t turn) unmap(c api.Call) api.Errno {
	to, ok := end(c.A, c.B)
	if !ok {
		return api.ErrArg
	}
	return t.task.Space.Unmap(c.A, to)
}

func (t turn) protect(c api.Call) api.Errno {
	to, ok := end(c.A, c.B)
	if !ok || c.C > allProt {
		return api.ErrArg
	}
	return t.task.Space.Protect(c.A, to, uint8(c.C))
}

func (t turn) load(c api.Call) api.Result {
	b, e := t.task.Space.Load(c.A, int(c.B))
	return api.Result{Err: e, Bytes: b}
}

func (t turn) store(c api.Call) api.Errno {
	return t.task.Space.Store(c.A, c.Bytes)
}

func (t turn) open(c api.Call) api.Result {
	files := t.kernel.cache.Files()
	ino, e := files.Walk(t.task.Creds, 0, c.Path, true)
	if e != api.OK {
		return failed(e)
	}
	m, e := files.Meta(ino)
	if e != api.OK {
		return failed(e)
	}
	if m.Kind == api.NodeDir {
		return failed(api.ErrIsDir)
	}
	if !creds.May(t.task.Creds, m, api.CanRead) {
		return failed(api.ErrAccess)
	}
	fd, e := t.task.Fds.Open(ino, c.A == 1)
	return api.Result{Err: e, Value: uint64(fd)}
}

// slot is what a descriptor is of.
func (t turn) slot(fd uint64) (api.Slot, api.Errno) {
	if fd >= api.MaxFds {
		return api.Slot{}, api.ErrFd
	}
	return t.task.Fds.At(int(fd))
}

func (t turn) close(c api.Call) api.Errno {
	if c.A >= api.MaxFds {
		return api.ErrFd
	}
	return t.task.Fds.Close(int(c.A))
}

func (t turn) read(c api.Call) api.Result {
	slot, e := t.slot(c.A)
	if e != api.OK {
		return failed(e)
	}
	m, e := t.kernel.cache.Files().Meta(slot.Ino)
	if e != api.OK {
		return failed(e)
	}
	n := min(int(c.B), m.Size-slot.Pos)
	b, e := t.kernel.fileBytes(slot.Ino, slot.Pos, n)
	if e != api.OK {
		return failed(e)
	}
	t.task.Fds.Move(int(c.A), slot.Pos+len(b))
	return api.Result{Bytes: b}
}

// fileBytes are n bytes of a file, from a place on. Each page's bytes are taken as soon as it is there: the
// next one may need its frame.
func (k *Kernel) fileBytes(ino, from, n int) ([]byte, api.Errno) {
	var out []byte
	for len(out) < n {
		at := from + len(out)
		f, e := k.cache.Get(ino, at/api.Page)
		if e != api.OK {
			return nil, e
		}
		part := min(api.Page-at%api.Page, n-len(out))
		b, e := k.cache.Pool().Load(f, at%api.Page, part)
		if e != api.OK {
			return nil, e
		}
		out = append(out, b...)
	}
	return out, api.OK
}
