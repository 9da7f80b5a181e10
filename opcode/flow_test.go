package opcode_test

import (
	"bytes"
	"iter"
	"math"
	"slices"
	"testing"

	"tabard/api"
	"tabard/opcode"
)

// heard are the instructions that an iterator tells.
func heard(t *testing.T, s iter.Seq2[int, api.Instr]) []api.Instr {
	t.Helper()
	var l []api.Instr
	for at, x := range s {
		if at != x.At {
			t.Error(at, x)
		}
		l = append(l, x)
	}
	return l
}

func TestWalk(t *testing.T) {
	for _, x := range []struct {
		b []byte
		l []api.Instr
	}{
		{nil, nil}, {[]byte{255, 0}, nil}, {[]byte{16}, nil}, {[]byte{188, 9, 0}, nil},
		{[]byte{0, 16, 200, 172}, []api.Instr{ins(0, 0, 0, 0), ins(1, 16, -56, 0), ins(3, 172, 0, 0)}},
		// Up to what One refuses: no opcode, bytes that end, an array of what there is not.
		{[]byte{0, 0, 186, 0}, []api.Instr{ins(0, 0, 0, 0), ins(1, 0, 0, 0)}}, {[]byte{3, 17, 1}, []api.Instr{ins(0, 3, 0, 0)}}, {[]byte{3, 188, 12, 3}, []api.Instr{ins(0, 3, 0, 0)}},
		// Where a jump goes is not asked, nor does what ends stop it.
		{[]byte{167, 0, 1, 177, 191, 0}, []api.Instr{ins(0, 167, 1, 0), ins(3, 177, 0, 0), ins(4, 191, 0, 0), ins(5, 0, 0, 0)}}, {[]byte{0, 198, 255, 250}, []api.Instr{ins(0, 0, 0, 0), ins(1, 198, -5, 0)}},
	} {
		if l := heard(t, opcode.Walk(x.b)); !slices.Equal(l, x.l) {
			t.Error(x.b, l)
		}
	}
	// MaxCode is no limit here.
	if l := heard(t, opcode.Walk(make([]byte, 3*api.MaxCode))); len(l) != 3*api.MaxCode {
		t.Error(len(l))
	}
}

func TestWalkIsOneByOne(t *testing.T) {
	n := numbers(3)
	for range 5000 {
		b := make([]byte, n.below(20))
		for i := range b {
			b[i] = byte(n.below(202))
		}
		var want []api.Instr
		for at := 0; ; {
			x, next, e := opcode.One(b, at)
			if e != api.OK {
				break
			}
			want, at = append(want, x), next
		}
		if l := heard(t, opcode.Walk(b)); !slices.Equal(l, want) {
			t.Fatal(b, l, want)
		}
	}
}

func TestWalkMayStopAndBeginAgain(t *testing.T) {
	w := opcode.Walk([]byte{0, 3, 4, 172})
	for most := range 4 {
		seen := 0
		for at := range w {
			if at != seen {
				t.Fatal(at, seen)
			}
			if seen == most {
				break
			}
			seen++
		}
		if seen != most {
			t.Fatal(seen, most)
		}
	}
	// One range over it within another one.
	pairs := 0
	for range w {
		for range w {
			pairs++
		}
	}
	if pairs != 16 {
		t.Fatal(pairs)
	}
}

func TestWalkTellsWhatWasThere(t *testing.T) {
	b := []byte{16, 5, 172}
	w := opcode.Walk(b)
	b[0], b[1], b[2] = 255, 255, 255
	want := []api.Instr{ins(0, 16, 5, 0), ins(2, 172, 0, 0)}
	if l := heard(t, w); !slices.Equal(l, want) {
		t.Fatal(l)
	}
	// A change while it is ranged over.
	b = []byte{0, 0, 0, 0}
	seen := 0
	for range opcode.Walk(b) {
		b[3] = 255
		seen++
	}
	if seen != 4 {
		t.Fatal(seen)
	}
}

func TestNothingIsWrittenTo(t *testing.T) {
	b := []byte{3, 59, 132, 0, 1, 161, 255, 253, 177}
	kept := slices.Clone(b)
	l, _ := opcode.Decode(b)
	_, _, _ = opcode.One(b, 2)
	heard(t, opcode.Walk(b))
	if !bytes.Equal(b, kept) {
		t.Error(b)
	}
	same := slices.Clone(l)
	if _, e := opcode.Encode(l...); e != api.OK {
		t.Error(e)
	}
	for i := range l {
		opcode.Next(l, i)
	}
	if !slices.Equal(l, same) {
		t.Error(l)
	}
	// What is answered is nobody's else.
	l[0] = ins(9, 9, 9, 9)
	if again, _ := opcode.Decode(b); !slices.Equal(again, same) {
		t.Error(again)
	}
	c, _ := opcode.Encode(same...)
	c[0] = 255
	if d, _ := opcode.Encode(same...); !bytes.Equal(d, kept) {
		t.Error(d)
	}
}

func TestEnds(t *testing.T) {
	those := []int{167, 172, 173, 176, 177, 191}
	for op := -300; op <= 600; op++ {
		if opcode.Ends(op) != slices.Contains(those, op) {
			t.Error(op)
		}
	}
}

func TestNext(t *testing.T) {
	l, e := opcode.Decode([]byte{
		26,        // 0 at 0: iload_0
		153, 0, 7, // 1 at 1: ifeq 8
		167, 255, 252, // 2 at 4: goto 0
		0,         // 3 at 7: nop
		154, 0, 3, // 4 at 8: ifne 11
		157, 0, 0, // 5 at 11: ifgt 11
		198, 255, 253, // 6 at 14: ifnull 11
		191,                // 7 at 17: athrow
		172, 173, 176, 177, // 8 to 11
		182, 0, 1, // 12 at 22: invokevirtual
		87, // 13 at 25: pop
	})
	if e != api.OK {
		t.Fatal(e)
	}
	want := [][]int{{1}, {2, 4}, {0}, {4}, {5}, {5, 6}, {5, 7}, nil, nil, nil, nil, nil, {13}, nil}
	for i := range l {
		if got := opcode.Next(l, i); !slices.Equal(got, want[i]) {
			t.Error(i, l[i], got)
		}
	}
	for _, i := range []int{-1, len(l), len(l) + 1, math.MinInt, math.MaxInt} {
		if got := opcode.Next(l, i); len(got) != 0 {
			t.Error(i, got)
		}
	}
	if got := opcode.Next(nil, 0); len(got) != 0 {
		t.Error(got)
	}
}

func TestNextOfAnyList(t *testing.T) {
	for _, x := range []struct {
		l    []api.Instr
		i    int
		want []int
	}{
		// Several at one address, in no order, and the one behind among them: each once, rising.
		{[]api.Instr{ins(7, 0, 0, 0), ins(0, 153, 7, 0), ins(7, 0, 0, 0), ins(3, 0, 0, 0), ins(7, 0, 0, 0)}, 1, []int{0, 2, 4}},
		{[]api.Instr{ins(7, 0, 0, 0), ins(0, 167, 7, 0), ins(3, 0, 0, 0), ins(7, 0, 0, 0)}, 1, []int{0, 3}},
		{[]api.Instr{ins(5, 154, 5, 0), ins(5, 0, 0, 0)}, 0, []int{0, 1}}, {[]api.Instr{ins(5, 154, 5, 0)}, 0, []int{0}}, {[]api.Instr{ins(5, 167, 5, 0), ins(6, 0, 0, 0)}, 0, []int{0}},
		// A jump to nowhere.
		{[]api.Instr{ins(0, 153, 9, 0), ins(3, 0, 0, 0)}, 0, []int{1}}, {[]api.Instr{ins(0, 167, 9, 0), ins(3, 0, 0, 0)}, 0, nil}, {[]api.Instr{ins(0, 153, -1, 0)}, 0, nil},
		// A is an address of jumps alone.
		{[]api.Instr{ins(0, 16, 0, 0), ins(2, 0, 0, 0)}, 0, []int{1}}, {[]api.Instr{ins(0, 0, 0, 0), ins(1, 172, 0, 0)}, 1, nil}, {[]api.Instr{ins(0, 0, 0, 0), ins(1, 0, 0, 0)}, 1, nil},
		// What is no opcode neither ends nor jumps.
		{[]api.Instr{ins(0, 186, 0, 0), ins(1, 0, 0, 0)}, 0, []int{1}}, {[]api.Instr{ins(0, -1, 0, 0), ins(1, 0, 0, 0)}, 0, []int{1}}, {[]api.Instr{ins(0, 256+167, 0, 0), ins(1, 0, 0, 0)}, 0, []int{1}},
		// The last place, with a jump that goes back.
		{[]api.Instr{ins(0, 0, 0, 0), ins(1, 199, 0, 0)}, 1, []int{0}},
	} {
		if got := opcode.Next(x.l, x.i); !slices.Equal(got, x.want) {
			t.Error(x.l, x.i, got)
		}
	}
}
