package vtype_test

import (
	"slices"
	"strings"
	"testing"

	"tabard/api"
	"tabard/vtype"
)

// TestLongNames has names of a million bytes, of classes and of nothing.
func TestLongNames(t *testing.T) {
	name := strings.Repeat("a/", 1<<19)
	h, _ := made(t, name+"C", name+"A:"+name+"C", name+"B:"+name+"C")
	for n := 1; n <= api.MaxDims; n++ {
		a, b, c := ref(dims(n)+"L"+name+"A;"), ref(dims(n)+"L"+name+"B;"), ref(dims(n)+"L"+name+"C;")
		if !vtype.Fits(h, a, c) || vtype.Fits(h, a, b) || vtype.Join(h, a, b) != c {
			t.Error(n)
		}
	}
	for _, s := range []string{dims(1 << 20), dims(1<<20) + "I", "[L" + dims(1<<20) + ";", strings.Repeat("[L", 1<<19), strings.Repeat("[LA;", 1<<18), "[L" + strings.Repeat(";", 1<<20), strings.Repeat("L", 1<<20), strings.Repeat("\xff", 1<<20)} {
		if vtype.Valid(h, ref(s)) || vtype.Fits(h, ref(s), top()) || vtype.Join(h, ref(s), ref(s)) != top() || vtype.Text(ref(s)) != s {
			t.Error(s[:9])
		}
		if a, is := vtype.Array(ref(s)); is && len(a.Name) <= len(s) || is == strings.HasPrefix(s, dims(17)) {
			t.Error(s[:9], is)
		}
	}
	if x, is := vtype.Element(ref(dims(1<<20) + "I")); !is || len(x.Name) != 1<<20 {
		t.Error(is)
	}
}

// TestLongShapes has far more locals and places than a method may have.
func TestLongShapes(t *testing.T) {
	h, _ := made(t, "C", "A:C", "B:C")
	const n = 1 << 18
	a := api.Shape{Locals: slices.Repeat(list{ref(dims(16) + "LA;")}, n), Stack: slices.Repeat(list{ref("A")}, n)}
	b := api.Shape{Locals: slices.Repeat(list{ref(dims(16) + "LB;")}, n), Stack: slices.Repeat(list{ref("B")}, n)}
	want := api.Shape{Locals: slices.Repeat(list{ref(dims(16) + "LC;")}, n), Stack: slices.Repeat(list{ref("C")}, n)}
	j, is := vtype.JoinAll(h, a, b)
	if !is || !equal(j, want) || !vtype.FitsAll(h, a, j) || !vtype.FitsAll(h, b, j) || vtype.FitsAll(h, j, a) || !vtype.Same(j, vtype.Clone(j)) {
		t.Error(is)
	}
	b.Stack[n-1] = num()
	if j, is := vtype.JoinAll(h, a, b); is || j.Locals != nil || j.Stack != nil {
		t.Error(is)
	}
	if k := vtype.Slots(slices.Repeat(list{long(), num()}, n)...); k != 3*n {
		t.Error(k)
	}
}
