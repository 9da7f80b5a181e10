package hier_test

import (
	"slices"
	"strings"
	"testing"

	"tabard/api"
	"tabard/hier"
)

func TestBuiltIn(t *testing.T) {
	h := held(t)
	names := []string{"java/lang/Object", "java/lang/Throwable", "java/lang/ArithmeticException", "java/lang/NullPointerException", "java/lang/ArrayIndexOutOfBoundsException", "java/lang/NegativeArraySizeException", "java/lang/ClassCastException", "java/lang/ArrayStoreException"}
	if h.Len() != 8 || len(names) != api.BuiltIn {
		t.Fatal(h.Len())
	}
	for n, name := range names {
		super, depth := 1, 2
		if n < 2 {
			super, depth = n-1, n
		}
		if h.Name(n) != name || h.Super(n) != super || h.Depth(n) != depth {
			t.Error(n, h.Name(n), h.Super(n), h.Depth(n))
		}
		if k, is := h.Find(name); k != n || !is {
			t.Error(name, k, is)
		}
	}
	if !slices.Equal(slices.Collect(h.Order()), []int{0, 1, 2, 3, 4, 5, 6, 7}) || !slices.Equal(h.Subs(1), []int{2, 3, 4, 5, 6, 7}) {
		t.Error("Order or Subs")
	}
}

// TestExamples is the document's examples.
func TestExamples(t *testing.T) {
	h := held(t, lines("B:A", "A")...)
	a, isA := h.Find("A")
	b, isB := h.Find("B")
	if b != 8 || a != 9 || !isA || !isB {
		t.Error(a, b)
	}
	if l := slices.Collect(h.Order()); !slices.Equal(l, []int{0, 1, 9, 2, 3, 4, 5, 6, 7, 8}) {
		t.Error(l)
	}
	if h, e := hier.New(lines("A:A")...); h != nil || e != api.ErrCycle {
		t.Error(h, e)
	}
}

func TestShapes(t *testing.T) {
	for _, l := range shapes() {
		if held(t, l...) == nil {
			t.Error("refused", l)
		}
	}
}

// TestErrors has errors alone and several at once, those that are named first ahead of the others.
func TestErrors(t *testing.T) {
	ring := numbered(64, func(i int) int { return (i + 63) % 64 })
	tests := []struct {
		l []api.Line
		e api.Errno
	}{
		{lines("A", "A"), api.ErrName}, {lines("A", "B", "A:B"), api.ErrName}, {lines("", ""), api.ErrName}, {lines(object), api.ErrName}, {lines("A", throwable), api.ErrName},
		{lines("java/lang/ArithmeticException"), api.ErrName}, {lines("java/lang/ArrayStoreException:" + throwable), api.ErrName}, {lines("java/lang/NullPointerException:A", "A"), api.ErrName},
		{lines("A:B"), api.ErrSuper}, {lines("A:"), api.ErrSuper}, {lines("A:a"), api.ErrSuper}, {lines("A", "B:A", "C:D"), api.ErrSuper}, {lines("A:java/lang/Objec"), api.ErrSuper}, {lines("A:java/lang/Exception"), api.ErrSuper},
		{lines("A:A"), api.ErrCycle}, {lines("A:B", "B:A"), api.ErrCycle}, {lines("A:B", "B:C", "C:A"), api.ErrCycle}, {lines("A", "B:B"), api.ErrCycle}, {lines("A:B", "B:B"), api.ErrCycle}, {lines("A:B", "B:C", "C:B", "D"), api.ErrCycle}, {ring, api.ErrCycle}, {lines(":"), api.ErrCycle},
		// A name comes ahead of a super, and that ahead of a ring, wherever they stand.
		{lines("A:X", "B:B", "C", "C"), api.ErrName}, {lines("C", "C", "A:X", "B:B"), api.ErrName}, {lines("A:A", "B", object+":X"), api.ErrName}, {lines("A:A", "A:A"), api.ErrName}, {lines("A:X", "A:Y"), api.ErrName},
		{lines("A:A", "B:X"), api.ErrSuper}, {lines("B:X", "A:A"), api.ErrSuper}, {lines("A:B", "B:A", "C:D"), api.ErrSuper},
	}
	for _, x := range tests {
		if h, e := hier.New(x.l...); h != nil || e != x.e {
			t.Error(x.l, h, e)
		}
		held(t, x.l...)
	}
}

// TestLong has as many classes as may be, and more; that there are too many comes ahead of all other errors.
func TestLong(t *testing.T) {
	alone := func(i int) int { return -1 }
	if h := held(t, numbered(64, alone)...); h == nil || h.Len() != 72 {
		t.Error("64 classes")
	}
	over := numbered(65, alone)
	for _, l := range [][]api.Line{over, numbered(66, alone), numbered(1<<16, alone), append(over, over...), append(lines("A:X"), over...), numbered(65, func(i int) int { return i }), make([]api.Line, 65)} {
		if h, e := hier.New(l...); h != nil || e != api.ErrLong {
			t.Error(len(l), h, e)
		}
	}
	for _, l := range [][]api.Line{append(over[:63:63], lines("C0")...), make([]api.Line, 64)} {
		if h, e := hier.New(l...); h != nil || e != api.ErrName {
			t.Error(len(l), h, e)
		}
	}
}

// TestLongNames has names that differ only far behind their beginning.
func TestLongNames(t *testing.T) {
	long := strings.Repeat("a/", 1<<18)
	var l []api.Line
	for i := range 64 {
		l = append(l, api.Line{Name: long + string(rune('!'+i)), Super: object})
		if i > 0 {
			l[i].Super = l[i-1].Name
		}
	}
	h, e := hier.New(l...)
	if e != api.OK || h.Depth(71) != 64 || h.Name(71) != l[63].Name {
		t.Fatal(e)
	}
	for i := range l {
		if n, is := h.Find(l[i].Name); n != 8+i || !is {
			t.Error(i, n, is)
		}
	}
	if n, is := h.Find(long); n != 0 || is {
		t.Error(n, is)
	}
}
