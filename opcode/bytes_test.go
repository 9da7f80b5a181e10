package opcode_test

import (
	"bytes"
	"math"
	"slices"
	"testing"

	"tabard/api"
	"tabard/opcode"
)

// ins is short for an instruction.
func ins(at, op, a, b int) api.Instr { return api.Instr{At: at, Op: op, A: a, B: b} }

// padded has so many nops, and the bytes behind them.
func padded(nops int, b ...byte) []byte { return append(make([]byte, nops), b...) }

func TestOneOfEachForm(t *testing.T) {
	for _, x := range []struct {
		b    []byte
		a, k int // k: iinc's amount
	}{
		{[]byte{0}, 0, 0}, {[]byte{172}, 0, 0}, {[]byte{191}, 0, 0},
		{[]byte{21, 0}, 0, 0}, {[]byte{22, 127}, 127, 0}, {[]byte{25, 128}, 128, 0}, {[]byte{54, 255}, 255, 0}, {[]byte{58, 64}, 64, 0},
		{[]byte{16, 0}, 0, 0}, {[]byte{16, 127}, 127, 0}, {[]byte{16, 128}, -128, 0}, {[]byte{16, 255}, -1, 0},
		{[]byte{17, 0, 1}, 1, 0}, {[]byte{17, 1, 0}, 256, 0}, {[]byte{17, 127, 255}, 32767, 0}, {[]byte{17, 128, 0}, -32768, 0}, {[]byte{17, 255, 255}, -1, 0}, {[]byte{17, 0, 255}, 255, 0},
		{[]byte{18, 0}, 0, 0}, {[]byte{18, 200}, 200, 0}, {[]byte{18, 255}, 255, 0},
		{[]byte{20, 0, 0}, 0, 0}, {[]byte{178, 1, 2}, 258, 0}, {[]byte{187, 128, 0}, 32768, 0}, {[]byte{193, 255, 255}, 65535, 0},
		{[]byte{167, 0, 0}, 0, 0}, {[]byte{153, 127, 255}, 32767, 0}, {[]byte{199, 128, 0}, -32768, 0}, {[]byte{198, 255, 255}, -1, 0},
		{[]byte{132, 255, 255}, 255, -1}, {[]byte{132, 0, 127}, 0, 127}, {[]byte{132, 7, 128}, 7, -128},
		{[]byte{188, 10}, 10, 0}, {[]byte{188, 11}, 11, 0},
	} {
		for _, ahead := range []int{0, 1, 5, 5000} {
			a := x.a
			if form, _ := opcode.Form(int(x.b[0])); form == api.FoJump {
				a += ahead
			}
			code := append(padded(ahead, x.b...), 255, 255)
			got, next, e := opcode.One(code, ahead)
			if e != api.OK || got != ins(ahead, int(x.b[0]), a, x.k) || next != ahead+len(x.b) {
				t.Error(x.b, ahead, got, next, e)
			}
		}
	}
}

func TestOneRefuses(t *testing.T) {
	for _, x := range []struct {
		b  []byte
		at int
		e  api.Errno
	}{
		{nil, 0, api.ErrShort}, {[]byte{}, 0, api.ErrShort}, {[]byte{0}, -1, api.ErrShort}, {[]byte{0}, 1, api.ErrShort}, {[]byte{0}, 2, api.ErrShort},
		{[]byte{255}, -1, api.ErrShort}, {[]byte{255}, 1, api.ErrShort}, {[]byte{0}, math.MinInt, api.ErrShort}, {[]byte{0}, math.MaxInt, api.ErrShort},
		{[]byte{11}, 0, api.ErrOpcode}, {[]byte{0, 186}, 1, api.ErrOpcode}, {[]byte{200}, 0, api.ErrOpcode}, {[]byte{255, 0, 0}, 0, api.ErrOpcode}, {[]byte{19, 0, 1}, 0, api.ErrOpcode},
		{[]byte{16}, 0, api.ErrShort}, {[]byte{21}, 0, api.ErrShort}, {[]byte{18}, 0, api.ErrShort}, {[]byte{188}, 0, api.ErrShort},
		{[]byte{17}, 0, api.ErrShort}, {[]byte{17, 1}, 0, api.ErrShort}, {[]byte{184, 1}, 0, api.ErrShort}, {[]byte{167, 0}, 0, api.ErrShort}, {[]byte{132, 10}, 0, api.ErrShort}, {[]byte{0, 0, 132, 10}, 2, api.ErrShort},
		{[]byte{188, 9}, 0, api.ErrField}, {[]byte{188, 12}, 0, api.ErrField}, {[]byte{188, 0}, 0, api.ErrField}, {[]byte{188, 255}, 0, api.ErrField}, {[]byte{0, 188, 4}, 1, api.ErrField},
	} {
		if got, next, e := opcode.One(x.b, x.at); e != x.e || got != (api.Instr{}) || next != 0 {
			t.Error(x.b, x.at, got, next, e)
		}
	}
}

func TestOneOfEachByte(t *testing.T) {
	all := entries(t)
	for op := range 256 {
		for tail := range 4 {
			b := append([]byte{byte(op)}, []byte{10, 1, 1}[:tail]...)
			_, next, e := opcode.One(b, 0)
			want, is := all[op]
			switch {
			case !is:
				if e != api.ErrOpcode {
					t.Error(b, e)
				}
			case len(b) < sizes[want.form]:
				if e != api.ErrShort {
					t.Error(b, e)
				}
			case e != api.OK || next != sizes[want.form]:
				t.Error(b, next, e)
			}
		}
	}
}

func TestDecode(t *testing.T) {
	b := []byte{3, 59, 132, 0, 1, 26, 16, 255, 161, 255, 250, 188, 11, 177}
	want := []api.Instr{ins(0, 3, 0, 0), ins(1, 59, 0, 0), ins(2, 132, 0, 1), ins(5, 26, 0, 0), ins(6, 16, -1, 0), ins(8, 161, 2, 0), ins(11, 188, 11, 0), ins(13, 177, 0, 0)}
	if l, e := opcode.Decode(b); e != api.OK || !slices.Equal(l, want) {
		t.Error(l, e)
	}
	// The document's examples.
	if l, e := opcode.Decode([]byte{16, 255, 172}); e != api.OK || !slices.Equal(l, []api.Instr{ins(0, 16, -1, 0), ins(2, 172, 0, 0)}) {
		t.Error(l, e)
	}
	if l, e := opcode.Decode([]byte{167, 0, 0}); e != api.OK || !slices.Equal(l, []api.Instr{ins(0, 167, 0, 0)}) {
		t.Error(l, e)
	}
}

func TestDecodeRefuses(t *testing.T) {
	for _, x := range []struct {
		b []byte
		e api.Errno
	}{
		{nil, api.ErrShort}, {[]byte{}, api.ErrShort},
		{make([]byte, api.MaxCode), api.OK}, {make([]byte, api.MaxCode+1), api.ErrLong},
		{append([]byte{255}, make([]byte, api.MaxCode)...), api.ErrLong}, {padded(api.MaxCode, 16), api.ErrLong}, {padded(api.MaxCode-1, 16), api.ErrShort},
		{[]byte{188, 9}, api.ErrField}, {[]byte{0, 255}, api.ErrOpcode}, {[]byte{0, 17, 0}, api.ErrShort},
		// The first one that is refused tells the error.
		{[]byte{188, 9, 255}, api.ErrField}, {[]byte{255, 188, 9}, api.ErrOpcode}, {[]byte{188, 9, 16}, api.ErrField}, {[]byte{255, 16}, api.ErrOpcode},
		// Jumps come behind all that.
		{[]byte{167, 0, 1, 255}, api.ErrOpcode}, {[]byte{167, 0, 1, 188, 9}, api.ErrField}, {[]byte{167, 0, 1, 16}, api.ErrShort},
		// Into an instruction, behind the end, ahead of the beginning.
		{[]byte{167, 0, 1}, api.ErrJump}, {[]byte{167, 0, 2, 0}, api.ErrJump}, {[]byte{167, 0, 3}, api.ErrJump}, {[]byte{167, 127, 255}, api.ErrJump}, {[]byte{0, 167, 0, 4, 0}, api.ErrJump},
		{[]byte{167, 255, 255}, api.ErrJump}, {[]byte{167, 128, 0}, api.ErrJump}, {[]byte{0, 167, 255, 254}, api.ErrJump}, {[]byte{16, 0, 167, 255, 255}, api.ErrJump},
		{[]byte{198, 0, 1, 177}, api.ErrJump}, {[]byte{199, 0, 2, 177}, api.ErrJump}, {[]byte{153, 0, 4, 177}, api.ErrJump}, {[]byte{166, 0, 2, 177}, api.ErrJump},
		// What jumps rightly does not cover what does not.
		{[]byte{167, 0, 3, 167, 255, 254}, api.ErrJump},
		// A byte that stands behind an opcode is none, though it looks like one.
		{[]byte{16, 167, 167, 255, 255}, api.ErrJump},
		{[]byte{167, 0, 3, 0}, api.OK}, {[]byte{0, 167, 255, 255}, api.OK}, {[]byte{0, 167, 0, 0}, api.OK},
	} {
		l, e := opcode.Decode(x.b)
		if e != x.e || e != api.OK && len(l) != 0 || e == api.OK && len(l) == 0 {
			t.Error(len(x.b), x.b[:min(len(x.b), 8)], len(l), e)
		}
	}
}

func TestEncode(t *testing.T) {
	if b, e := opcode.Encode(); e != api.OK || len(b) != 0 {
		t.Error(b, e)
	}
	for _, x := range []struct {
		x api.Instr
		b []byte
	}{
		{ins(0, 0, 0, 0), []byte{0}}, {ins(0, 177, 0, 0), []byte{177}},
		{ins(0, 21, 0, 0), []byte{21, 0}}, {ins(0, 58, 255, 0), []byte{58, 255}},
		{ins(0, 16, -128, 0), []byte{16, 128}}, {ins(0, 16, 127, 0), []byte{16, 127}}, {ins(0, 16, -1, 0), []byte{16, 255}},
		{ins(0, 17, -32768, 0), []byte{17, 128, 0}}, {ins(0, 17, 32767, 0), []byte{17, 127, 255}}, {ins(0, 17, 258, 0), []byte{17, 1, 2}},
		{ins(0, 18, 0, 0), []byte{18, 0}}, {ins(0, 18, 255, 0), []byte{18, 255}},
		{ins(0, 20, 0, 0), []byte{20, 0, 0}}, {ins(0, 184, 65535, 0), []byte{184, 255, 255}}, {ins(0, 187, 258, 0), []byte{187, 1, 2}},
		{ins(0, 167, -32768, 0), []byte{167, 128, 0}}, {ins(0, 198, 32767, 0), []byte{198, 127, 255}}, {ins(0, 153, 0, 0), []byte{153, 0, 0}},
		{ins(0, 132, 0, -128), []byte{132, 0, 128}}, {ins(0, 132, 255, 127), []byte{132, 255, 127}}, {ins(0, 132, 9, 0), []byte{132, 9, 0}},
		{ins(0, 188, 10, 0), []byte{188, 10}}, {ins(0, 188, 11, 0), []byte{188, 11}},
	} {
		if b, e := opcode.Encode(x.x); e != api.OK || !bytes.Equal(b, x.b) {
			t.Error(x.x, b, e)
		}
	}
	// A jump's bytes say how far it is from its own address.
	for _, x := range []struct {
		a    int
		h, l byte
	}{{2, 0, 0}, {0, 255, 254}, {5, 0, 3}, {32769, 127, 255}, {-32766, 128, 0}} {
		if b, e := opcode.Encode(ins(0, 16, 7, 0), ins(2, 167, x.a, 0)); e != api.OK || !bytes.Equal(b, []byte{16, 7, 167, x.h, x.l}) {
			t.Error(x, b, e)
		}
	}
}

func TestEncodeRefusesWhatDoesNotFit(t *testing.T) {
	for _, x := range []api.Instr{
		ins(0, 0, 1, 0), ins(0, 0, -1, 0), ins(0, 0, 0, 1), ins(0, 0, 256, 0), ins(0, 172, 0, -1), ins(0, 172, 1<<32, 0), ins(0, 191, math.MinInt, 0), ins(0, 0, 0, math.MaxInt),
		ins(0, 21, -1, 0), ins(0, 21, 256, 0), ins(0, 21, 3, 1), ins(0, 55, math.MaxInt, 0), ins(0, 22, 1<<32, 0),
		ins(0, 16, -129, 0), ins(0, 16, 128, 0), ins(0, 16, 255, 0), ins(0, 16, 0, 1), ins(0, 16, math.MinInt, 0), ins(0, 16, 256, 0),
		ins(0, 17, -32769, 0), ins(0, 17, 32768, 0), ins(0, 17, 65535, 0), ins(0, 17, 0, -1), ins(0, 17, math.MaxInt, 0), ins(0, 17, 1<<16, 0),
		ins(0, 18, -1, 0), ins(0, 18, 256, 0), ins(0, 18, 1, 1),
		ins(0, 20, -1, 0), ins(0, 20, 65536, 0), ins(0, 193, 5, 5), ins(0, 182, math.MinInt, 0), ins(0, 182, 1<<32, 0),
		ins(0, 167, 32768, 0), ins(0, 167, -32769, 0), ins(0, 167, 0, 1), ins(0, 198, math.MaxInt, 0), ins(0, 199, math.MinInt, 0), ins(0, 153, 65536, 0), ins(0, 153, 1<<32, 0),
		ins(0, 132, -1, 0), ins(0, 132, 256, 0), ins(0, 132, 0, 128), ins(0, 132, 0, -129), ins(0, 132, 0, 255), ins(0, 132, 0, math.MinInt), ins(0, 132, math.MaxInt, 0),
		ins(0, 188, 9, 0), ins(0, 188, 12, 0), ins(0, 188, 0, 0), ins(0, 188, 266, 0), ins(0, 188, -246, 0), ins(0, 188, 10, 1),
		ins(1, 0, 0, 0), ins(-1, 0, 0, 0), ins(1, 167, 1, 0), ins(math.MaxInt, 167, math.MinInt, 0), ins(math.MinInt, 167, math.MinInt, 0), ins(math.MaxInt, 0, 0, 0), ins(1<<32, 0, 0, 0),
	} {
		if b, e := opcode.Encode(x); e != api.ErrField || len(b) != 0 {
			t.Error(x, b, e)
		}
	}
	// Of a jump that stands behind others: how far it is, and not where it goes.
	for _, a := range []int{32770, -32767, 65538, math.MaxInt, math.MinInt, math.MinInt + 2} {
		if b, e := opcode.Encode(ins(0, 16, 7, 0), ins(2, 167, a, 0)); e != api.ErrField || len(b) != 0 {
			t.Error(a, b, e)
		}
	}
}

func TestEncodeRefusesTheFirst(t *testing.T) {
	nop, bad, gap := ins(0, 0, 0, 0), ins(0, 0, 1, 0), ins(0, 186, 0, 0)
	for _, x := range []struct {
		l []api.Instr
		e api.Errno
	}{
		{[]api.Instr{gap}, api.ErrOpcode}, {[]api.Instr{ins(0, -1, 0, 0)}, api.ErrOpcode}, {[]api.Instr{ins(0, 256, 0, 0)}, api.ErrOpcode}, {[]api.Instr{ins(0, 256+167, 0, 0)}, api.ErrOpcode},
		{[]api.Instr{ins(0, 200, 0, 0)}, api.ErrOpcode}, {[]api.Instr{ins(0, math.MinInt, 0, 0)}, api.ErrOpcode}, {[]api.Instr{ins(0, math.MaxInt, 0, 0)}, api.ErrOpcode},
		// No opcode, and fields that may not be: of one instruction the opcode comes first.
		{[]api.Instr{ins(5, 186, 1, 1)}, api.ErrOpcode}, {[]api.Instr{nop, ins(0, 19, 1, 1)}, api.ErrOpcode},
		{[]api.Instr{bad, gap}, api.ErrField}, {[]api.Instr{gap, bad}, api.ErrOpcode}, {[]api.Instr{nop, nop, gap}, api.ErrField}, {[]api.Instr{nop, gap, nop}, api.ErrOpcode},
		// At: too far ahead, too far behind, and by the size of what stands ahead.
		{[]api.Instr{nop, nop}, api.ErrField}, {[]api.Instr{nop, ins(2, 0, 0, 0)}, api.ErrField}, {[]api.Instr{ins(0, 16, 1, 0), ins(1, 0, 0, 0)}, api.ErrField},
		{[]api.Instr{ins(0, 16, 1, 0), ins(2, 0, 0, 0)}, api.OK}, {[]api.Instr{ins(0, 132, 1, 1), ins(3, 0, 0, 0)}, api.OK}, {[]api.Instr{ins(0, 188, 10, 0), ins(2, 20, 9, 0), ins(5, 0, 0, 0)}, api.OK},
		// Where jumps go is not asked.
		{[]api.Instr{ins(0, 167, 1, 0)}, api.OK}, {[]api.Instr{ins(0, 167, -5, 0)}, api.OK}, {[]api.Instr{ins(0, 167, 3, 0)}, api.OK},
	} {
		if b, e := opcode.Encode(x.l...); e != x.e || e != api.OK && len(b) != 0 {
			t.Error(x.l, b, e)
		}
	}
}

// nops are so many instructions of one byte.
func nops(n int) []api.Instr {
	l := make([]api.Instr, n)
	for i := range l {
		l[i].At = i
	}
	return l
}

func TestEncodeLength(t *testing.T) {
	if b, e := opcode.Encode(nops(api.MaxCode)...); e != api.OK || !bytes.Equal(b, make([]byte, api.MaxCode)) {
		t.Error(len(b), e)
	}
	for _, x := range []struct {
		ahead int
		last  api.Instr
		e     api.Errno
	}{
		{api.MaxCode, ins(api.MaxCode, 0, 0, 0), api.ErrLong}, {api.MaxCode - 1, ins(api.MaxCode-1, 16, 0, 0), api.ErrLong}, {api.MaxCode - 2, ins(api.MaxCode-2, 16, 0, 0), api.OK},
		{api.MaxCode - 2, ins(api.MaxCode-2, 17, 0, 0), api.ErrLong}, {api.MaxCode - 3, ins(api.MaxCode-3, 17, 0, 0), api.OK},
		// A fault behind the limit comes ahead of it.
		{api.MaxCode + 9, ins(api.MaxCode+9, 186, 0, 0), api.ErrOpcode}, {api.MaxCode + 9, ins(0, 0, 0, 0), api.ErrField}, {api.MaxCode + 9, ins(api.MaxCode+9, 16, 128, 0), api.ErrField},
		{70000, ins(70000, 0, 0, 0), api.ErrLong}, {70000, ins(70000, 167, 70000-32768, 0), api.ErrLong}, {70000, ins(70000, 167, 70000-32769, 0), api.ErrField}, {70000, ins(70000, 167, 0, 0), api.ErrField},
	} {
		if b, e := opcode.Encode(append(nops(x.ahead), x.last)...); e != x.e || e != api.OK && len(b) != 0 {
			t.Error(x, len(b), e)
		}
	}
}

// numbers are told by a rule, so that each run of the tests has the same ones.
type numbers uint64

func (n *numbers) below(k int) int {
	*n = *n*6364136223846793005 + 1442695040888963407
	return int(uint64(*n)>>33) % k
}

// code is some instructions that may be, one behind the other; if land, their jumps go to where one begins.
func code(t *testing.T, n *numbers, many int, land bool) []api.Instr {
	var ops []int
	for op := range 256 {
		if _, is := opcode.Form(op); is {
			ops = append(ops, op)
		}
	}
	var l []api.Instr
	at := 0
	for range many {
		op := ops[n.below(len(ops))]
		x := ins(at, op, 0, 0)
		switch form, _ := opcode.Form(op); form {
		case api.FoLocal, api.FoLow:
			x.A = n.below(256)
		case api.FoByte:
			x.A = n.below(256) - 128
		case api.FoShort:
			x.A = n.below(65536) - 32768
		case api.FoIndex:
			x.A = n.below(65536)
		case api.FoJump:
			x.A = at + n.below(65536) - 32768
		case api.FoInc:
			x.A, x.B = n.below(256), n.below(256)-128
		case api.FoArray:
			x.A = 10 + n.below(2)
		}
		size, is := opcode.Size(op)
		if !is {
			t.Fatal(op)
		}
		l, at = append(l, x), at+size
	}
	for i := range l {
		if form, _ := opcode.Form(l[i].Op); form == api.FoJump && land {
			l[i].A = l[n.below(len(l))].At
		}
	}
	return l
}

func TestThereAndBack(t *testing.T) {
	n := numbers(1)
	for k := range 2000 {
		l := code(t, &n, 1+n.below(60), k%2 == 0)
		b, e := opcode.Encode(l...)
		if e != api.OK {
			t.Fatal(l, e)
		}
		var walked []api.Instr
		for at, x := range opcode.Walk(b) {
			if at != x.At {
				t.Fatal(at, x)
			}
			walked = append(walked, x)
		}
		if !slices.Equal(walked, l) {
			t.Fatal(l, walked)
		}
		if k%2 != 0 {
			continue
		}
		if d, e := opcode.Decode(b); e != api.OK || !slices.Equal(d, l) {
			t.Fatal(l, d, e)
		}
	}
}

func TestBackAndThere(t *testing.T) {
	told := 0
	try := func(b ...byte) {
		l, e := opcode.Decode(b)
		if e != api.OK {
			return
		}
		told++
		if c, e := opcode.Encode(l...); e != api.OK || !bytes.Equal(c, b) {
			t.Fatal(b, l, c, e)
		}
	}
	for i := range 1 << 16 {
		try(byte(i>>8), byte(i))
		try(byte(i>>8), byte(i), byte(i>>4))
		try(17, byte(i>>8), byte(i))
		try(20, byte(i>>8), byte(i))
		try(132, byte(i>>8), byte(i))
	}
	n := numbers(2)
	for range 20000 {
		b := make([]byte, 1+n.below(12))
		for i := range b {
			b[i] = byte(n.below(200))
		}
		try(b...)
	}
	if told < 3<<16 {
		t.Fatal(told)
	}
}
