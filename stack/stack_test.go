package stack_test

import (
	"bytes"
	"encoding/binary"
	"math/rand"
	"slices"
	"strings"
	"testing"

	"hostel/api"
	"hostel/stack"
)

const top = api.StackTop

func le(l ...uint64) []byte {
	var b []byte
	for _, x := range l {
		b = binary.LittleEndian.AppendUint64(b, x)
	}
	return b
}

func TestLayByHand(t *testing.T) {
	for _, x := range []struct {
		name      string
		argv, env []string
		aux       []api.Aux
		path      string
		want      []byte
	}{
		{"nothing", nil, nil, nil, "", slices.Concat(le(0, 0, 0, 31, top-9, 0, 0), make([]byte, 15+1+8))},
		{"an argument", []string{"a"}, nil, nil, "/a", slices.Concat(le(1, 0x7fffffffeff3, 0, 0, 31, 0x7fffffffeff5, 0, 0), make([]byte, 3), []byte("a\x00/a\x00"), make([]byte, 8))},
	} {
		b, sp, e := stack.Lay(x.argv, x.env, x.aux, x.path)
		if !bytes.Equal(b, x.want) || sp != top-uint64(len(x.want)) || e != api.OK {
			t.Errorf("P20.1: %s: %x at %#x, %d, want %x", x.name, b, sp, e, x.want)
		}
	}
	// From the top: 8 noughts, "/p" (3 bytes), "Y=" (3), "X=1" (4), "bc" (3), "" (1), "a" (2): 24 in all; 16 numbers.
	want := slices.Concat(le(3, top-24, top-22, top-21, 0, top-18, top-14, 0, 5, 7, 1<<64-1, 0, 31, top-11, 0, 0), make([]byte, 8), []byte("a\x00"), []byte("\x00"), []byte("bc\x00"), []byte("X=1\x00"), []byte("Y=\x00"), []byte("/p\x00"), make([]byte, 8))
	b, sp, e := stack.Lay([]string{"a", "", "bc"}, []string{"X=1", "Y="}, []api.Aux{{Key: 5, Value: 7}, {Key: 1<<64 - 1}}, "/p")
	if !bytes.Equal(b, want) || sp != top-160 || e != api.OK {
		t.Errorf("P20.1: %x at %#x, %d, want %x", b, sp, e, want)
	}
}

func many(n int, s string) []string { return slices.Repeat([]string{s}, n) }

func TestLayRefuses(t *testing.T) {
	long, aux := strings.Repeat("a", 257), make([]api.Aux, 16)
	for i := range aux {
		aux[i].Key = 1
	}
	path := strings.Repeat("p", 200)
	for _, x := range []struct {
		name      string
		argv, env []string
		aux       []api.Aux
		path      string
		e         api.Errno
	}{
		{"33 arguments", many(33, ""), nil, nil, "", api.ErrBig}, {"32 arguments", many(32, ""), nil, nil, "", api.OK}, {"33 variables", nil, many(33, ""), nil, "", api.ErrBig}, {"32 variables", nil, many(32, ""), nil, "", api.OK}, {"a long argument", []string{long}, nil, nil, "", api.ErrBig}, {"a long variable", nil, []string{long}, nil, "", api.ErrBig}, {"an argument with a nought", []string{"\x00"}, nil, nil, "", api.ErrArg}, {"a variable with a nought", nil, []string{"\x00"}, nil, "", api.ErrArg},
		{"arguments ahead of variables", []string{"\x00"}, []string{long}, nil, "", api.ErrArg}, {"arguments ahead of variables, the other way", []string{long}, []string{"\x00"}, nil, "", api.ErrBig}, {"variables ahead of the path", nil, []string{"\x00"}, nil, path + "p", api.ErrArg},
		{"a path of 200", nil, nil, nil, path, api.OK}, {"a path of 201", nil, nil, nil, path + "p", api.ErrBig}, {"a path of 201 with a nought", nil, nil, nil, path + "\x00", api.ErrBig}, {"a path with a nought", nil, nil, nil, "\x00", api.ErrArg}, {"16 of aux", nil, nil, aux, "", api.OK}, {"17 of aux", nil, nil, append(slices.Clone(aux), api.Aux{Key: 1}), "", api.ErrBig}, {"17 of aux, one of them 0", nil, nil, append(slices.Clone(aux), api.Aux{}), "", api.ErrBig}, {"a key 0", nil, nil, []api.Aux{{Key: 1}, {Value: 7}}, "", api.ErrArg}, {"a key AuxExecfn", nil, nil, []api.Aux{{Key: 31}}, "", api.ErrArg}, {"a key twice", nil, nil, []api.Aux{{Key: 3}, {Key: 3}}, "", api.OK},
		{"too many bytes", many(32, long[:256]), many(32, long[:256]), nil, "", api.ErrBig}, {"too many bytes, a key 0", many(32, long[:256]), many(32, long[:256]), []api.Aux{{}}, "", api.ErrArg}, {"no path at all", nil, nil, nil, "no path\xff//", api.OK},
	} {
		b, sp, e := stack.Lay(x.argv, x.env, x.aux, x.path)
		if e != x.e || e != api.OK && (len(b) != 0 || sp != 0) {
			t.Errorf("P20.1: %s: %d bytes, %#x, %d, want %d", x.name, len(b), sp, e, x.e)
		}
	}
	// The last variable fills what numbers, texts and the top leave.
	for last, e := range map[int]api.Errno{0: api.OK, 1: api.ErrBig} {
		env := many(29, long[:256])
		numbers := 1 + 33 + 31 + 4
		rest := 16384 - 8*numbers - 32*257 - 29*257 - 9 - 1
		env = append(env, strings.Repeat("b", rest+last))
		b, sp, err := stack.Lay(many(32, long[:256]), env, nil, "")
		if err != e || e == api.OK && (len(b) != 16384 || sp != top-16384) {
			t.Errorf("P20.1: %d bytes too many: %d bytes, %d", last, len(b), err)
		}
	}
}

func read(t *testing.T, name string, b []byte, sp uint64, e api.Errno) {
	t.Helper()
	argv, env, aux, err := stack.Read(b, sp)
	if err != e || e != api.OK && len(argv)+len(env)+len(aux) > 0 {
		t.Errorf("P20.2: %s: %q, %q, %v, %d, want %d", name, argv, env, aux, err, e)
	}
}

// of is a stack of numbers and bytes behind them.
func of(numbers []uint64, more string) ([]byte, uint64) {
	b := append(le(numbers...), more...)
	for len(b)%16 != 0 {
		b = append(b, 1)
	}
	return b, top - uint64(len(b))
}

func TestRead(t *testing.T) {
	long := strings.Repeat("a", 256)
	addresses := func(n int, at uint64) []uint64 { return slices.Repeat([]uint64{at}, n) }
	for _, x := range []struct {
		name    string
		numbers []uint64
		more    string
		e       api.Errno
	}{
		{"the least", []uint64{0, 0, 0, 0, 0, 0}, "", api.OK}, {"without the last value", []uint64{0, 0, 0, 0}, "", api.ErrForm}, {"without a key", []uint64{0, 0, 0, 5, 7}, "", api.ErrForm}, {"no 0 behind the arguments", []uint64{0, 1, 0, 0, 0, 0}, "", api.ErrForm}, {"more arguments than numbers", []uint64{5, top - 1, top - 1, top - 1}, "", api.ErrForm}, {"32 arguments that are not there", []uint64{32, 0}, "", api.ErrForm}, {"33 arguments", []uint64{33, 0}, "", api.ErrBig}, {"very many arguments", []uint64{1<<64 - 1, 0}, "", api.ErrBig}, {"one number", []uint64{33}, "", api.ErrBig}, {"an environment without end", []uint64{0, 0, 7, 7}, "", api.ErrForm},
		{"33 variables", slices.Concat([]uint64{0, 0}, addresses(33, 9)), "", api.ErrBig}, {"32 variables and no end", slices.Concat([]uint64{0, 0}, addresses(32, 9)), "", api.ErrForm}, {"17 pairs", slices.Concat([]uint64{0, 0, 0}, addresses(34, 3), []uint64{0, 0}), "", api.OK}, {"18 pairs", slices.Concat([]uint64{0, 0, 0}, addresses(36, 3), []uint64{0, 0}), "", api.ErrBig}, {"18 pairs, the last one cut", slices.Concat([]uint64{0, 0, 0}, addresses(35, 3)), "", api.ErrForm}, {"17 pairs, and half of the end", slices.Concat([]uint64{0, 0, 0}, addresses(34, 3), []uint64{0}), "", api.ErrForm},
		{"an argument at 0", []uint64{1, 0, 0, 0, 0, 0}, "", api.ErrForm}, {"an argument below", []uint64{1, top - 49, 0, 0, 0, 0}, "", api.ErrForm}, {"an argument at the top", []uint64{1, top, 0, 0, 0, 0}, "", api.ErrForm}, {"an argument far away", []uint64{1, 1<<64 - 1, 0, 0, 0, 0}, "", api.ErrForm}, {"an argument at the last byte", []uint64{1, top - 1, 0, 0, 0, 0}, "", api.OK}, {"an argument at sp", []uint64{1, top - 48, 0, 0, 0, 0}, "", api.OK}, {"a variable far away", []uint64{0, 0, 7, 0, 0, 0}, "", api.ErrForm},
		{"a text without end", []uint64{1, top - 1, 0, 0, 0, 0}, "a", api.ErrForm}, {"a text of 256", []uint64{1, top - 272, 0, 0, 0, 0}, long + strings.Repeat("\x00", 16), api.OK}, {"a text of 257", []uint64{1, top - 272, 0, 0, 0, 0}, long + "b" + strings.Repeat("\x00", 15), api.ErrBig}, {"a variable of 257", []uint64{0, 0, top - 272, 0, 0, 0}, long + "b" + strings.Repeat("\x00", 15), api.ErrBig},
		{"arguments' texts ahead of variables'", []uint64{1, 7, 0, top - 272, 0, 0, 0, 0}, long + "b" + strings.Repeat("\x00", 15), api.ErrForm}, {"arguments' texts ahead of variables', the other way", []uint64{1, top - 272, 0, 7, 0, 0, 0, 0}, long + "b" + strings.Repeat("\x00", 15), api.ErrBig}, {"numbers ahead of texts", []uint64{1, 7, 0, 0, 5, 5}, "", api.ErrForm}, {"a count ahead of texts", slices.Concat([]uint64{1, 7, 0}, addresses(33, 9)), "", api.ErrBig},
	} {
		b, sp := of(x.numbers, x.more)
		if x.name == "one number" {
			b, sp = le(33, 0), top-16
		}
		read(t, x.name, b, sp, x.e)
	}
	read(t, "nothing", nil, top, api.ErrForm)
	read(t, "8 bytes", make([]byte, 8), top-8, api.ErrForm)
	fine := make([]byte, 64)
	read(t, "64 bytes", fine, top-64, api.OK)
	read(t, "elsewhere", fine, top-80, api.ErrForm)
	read(t, "elsewhere", fine, top-48, api.ErrForm)
	read(t, "not even", make([]byte, 60), top-60, api.ErrForm)
	read(t, "a little more", append(fine, 0), top-64, api.ErrForm)
	read(t, "that wraps", fine, 1<<64-16, api.ErrForm)
	read(t, "at 0", fine, 0, api.ErrForm)
	argv, env, aux, e := stack.Read(append(le(1, top-8, 0, top-7, 0, 9, 1<<64-1, 31, 5, 0, 77, 1), "ab\x00\xff\x00zzz"...), top-104)
	if e != api.ErrForm {
		t.Errorf("P20.2: sp of 8 bytes too few: %q, %q, %v, %d", argv, env, aux, e)
	}
	b := append(le(1, top-8, 0, top-7, 0, 9, 1<<64-1, 31, 5, 0, 77), "ab\x00\xff\x00zzz"...)
	argv, env, aux, e = stack.Read(b, top-96)
	if !slices.Equal(argv, []string{"ab"}) || !slices.Equal(env, []string{"b"}) || !slices.Equal(aux, []api.Aux{{Key: 9, Value: 1<<64 - 1}, {Key: 31, Value: 5}}) || e != api.OK {
		t.Errorf("P20.2: %q, %q, %v, %d", argv, env, aux, e)
	}
}

func TestReadOfLay(t *testing.T) {
	r := rand.New(rand.NewSource(20))
	some := func() []string {
		var l []string
		for range r.Intn(9) {
			b := make([]byte, r.Intn(40)*r.Intn(7))
			for i := range b {
				b[i] = byte(1 + r.Intn(255))
			}
			l = append(l, string(b))
		}
		return l
	}
	for range 500 {
		argv, env, path := some(), some(), strings.Repeat("p", r.Intn(201))
		var aux []api.Aux
		for range r.Intn(17) {
			aux = append(aux, api.Aux{Key: 32 + r.Uint64()>>1, Value: r.Uint64()})
		}
		oldArgv, oldEnv, oldAux := slices.Clone(argv), slices.Clone(env), slices.Clone(aux)
		b, sp, e := stack.Lay(argv, env, aux, path)
		if e != api.OK || sp%16 != 0 || sp+uint64(len(b)) != top {
			t.Fatalf("P20.1: %d bytes at %#x, %d", len(b), sp, e)
		}
		argv2, env2, aux2, e := stack.Read(b, sp)
		n := len(aux2) - 1
		if !slices.Equal(argv2, oldArgv) || !slices.Equal(env2, oldEnv) || e != api.OK || n < 0 || !slices.Equal(aux2[:n], oldAux) {
			t.Fatalf("P20.2: %q, %q, %v, %d", argv2, env2, aux2, e)
		}
		if fn := aux2[n]; fn.Key != api.AuxExecfn || !bytes.HasPrefix(b[fn.Value-sp:], append([]byte(path), 0)) || fn.Value != top-9-uint64(len(path)) {
			t.Fatalf("P20.2: the path is at %#x", fn.Value)
		}
		for n := range 20 {
			stack.Read(b[n*8:], sp+uint64(n*8))
		}
	}
}
