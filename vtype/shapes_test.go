package vtype_test

import (
	"slices"
	"testing"

	"tabard/api"
	"tabard/hier"
	"tabard/vtype"
)

type list = []api.Type

// meantAll is the plain reading of Same, FitsAll and JoinAll, by what Fits and Join tell of two types.
func meantAll(h *hier.Hier, a, b api.Shape) (same, fits bool, j api.Shape, is bool) {
	if len(a.Locals) != len(b.Locals) || len(a.Stack) != len(b.Stack) {
		return
	}
	same, fits, is = true, true, true
	for i := range a.Locals {
		x, y := a.Locals[i], b.Locals[i]
		same, fits = same && x == y, fits && vtype.Fits(h, x, y)
		j.Locals = append(j.Locals, vtype.Join(h, x, y))
	}
	for i := range a.Stack {
		x, y := a.Stack[i], b.Stack[i]
		same, fits = same && x == y, fits && vtype.Fits(h, x, y)
		j.Stack = append(j.Stack, vtype.Join(h, x, y))
		is = is && (j.Stack[i] != top() || x.Kind == api.TyTop || y.Kind == api.TyTop)
	}
	if !is {
		j = api.Shape{}
	}
	return
}

// equal tells whether two shapes are the same, without the program.
func equal(a, b api.Shape) bool {
	return slices.Equal(a.Locals, b.Locals) && slices.Equal(a.Stack, b.Stack)
}

func hold(t *testing.T, h *hier.Hier, a, b api.Shape) {
	t.Helper()
	same, fits, j, is := meantAll(h, a, b)
	if vtype.Same(a, b) != same || vtype.FitsAll(h, a, b) != fits {
		t.Error("Same, FitsAll", a, b, same, fits)
	}
	if k, yes := vtype.JoinAll(h, a, b); yes != is || !equal(k, j) {
		t.Error("JoinAll", a, b, k, yes)
	}
	if c := vtype.Clone(a); !equal(c, a) {
		t.Error("Clone", a, c)
	}
}

// TestOne has shapes of one local, and of one place of the stack, of all types.
func TestOne(t *testing.T) {
	family := families()[1]
	h, _ := made(t, family...)
	l := types(family)
	for _, a := range l {
		for _, b := range l {
			hold(t, h, api.Shape{Locals: list{a}}, api.Shape{Locals: list{b}})
			hold(t, h, api.Shape{Stack: list{a}}, api.Shape{Stack: list{b}})
			hold(t, h, api.Shape{Locals: list{a}, Stack: list{b}}, api.Shape{Locals: list{b}, Stack: list{b}})
			hold(t, h, api.Shape{Locals: list{a}}, api.Shape{Stack: list{b}})
		}
	}
}

func TestShapes(t *testing.T) {
	h, _ := made(t, "C", "A:C", "B:C")
	a, b, c, none := ref("A"), ref("B"), ref("C"), api.Type{Kind: 9}
	for _, x := range []struct {
		a, b, j  api.Shape
		is, fits bool
	}{
		{is: true, fits: true},
		{a: api.Shape{Locals: list{}, Stack: list{}}, is: true, fits: true},
		{a: api.Shape{Locals: list{a, num()}, Stack: list{a}}, b: api.Shape{Locals: list{b, long()}, Stack: list{b}}, j: api.Shape{Locals: list{c, top()}, Stack: list{c}}, is: true},
		{a: api.Shape{Locals: list{a, null()}, Stack: list{b, null()}}, b: api.Shape{Locals: list{top(), a}, Stack: list{c, c}}, j: api.Shape{Locals: list{top(), a}, Stack: list{c, c}}, is: true, fits: true},
		// A long's second local joins by itself.
		{a: api.Shape{Locals: list{long(), top()}}, b: api.Shape{Locals: list{num(), num()}}, j: api.Shape{Locals: list{top(), top()}}, is: true},
		{a: api.Shape{Locals: list{long(), top()}}, b: api.Shape{Locals: list{long(), top()}}, j: api.Shape{Locals: list{long(), top()}}, is: true, fits: true},
		{a: api.Shape{Locals: list{long(), top()}}, b: api.Shape{Locals: list{long(), num()}}, j: api.Shape{Locals: list{long(), top()}}, is: true},
		{a: api.Shape{Locals: list{a, num()}}, b: api.Shape{Locals: list{top(), top()}}, j: api.Shape{Locals: list{top(), top()}}, is: true, fits: true},
		// More and fewer.
		{a: api.Shape{Locals: list{a}}}, {a: api.Shape{Stack: list{a}}}, {b: api.Shape{Locals: list{top()}}}, {b: api.Shape{Stack: list{top()}}},
		{a: api.Shape{Locals: list{a, a}, Stack: list{a}}, b: api.Shape{Locals: list{a}, Stack: list{a, a}}},
		{a: api.Shape{Locals: list{a}, Stack: list{a}}, b: api.Shape{Locals: list{a}, Stack: list{a, a}}}, {a: api.Shape{Locals: list{a}, Stack: list{a}}, b: api.Shape{Locals: list{a, a}, Stack: list{a}}},
		{a: api.Shape{Locals: list{a}}, b: api.Shape{Stack: list{a}}},
		// On the stack nothing becomes top that was not; among the locals it may.
		{a: api.Shape{Stack: list{num()}}, b: api.Shape{Stack: list{long()}}}, {a: api.Shape{Stack: list{num()}}, b: api.Shape{Stack: list{a}}}, {a: api.Shape{Stack: list{null()}}, b: api.Shape{Stack: list{num()}}},
		{a: api.Shape{Stack: list{a, num(), a}}, b: api.Shape{Stack: list{a, a, a}}}, {a: api.Shape{Locals: list{num()}, Stack: list{a, num()}}, b: api.Shape{Locals: list{num()}, Stack: list{a, a}}},
		{a: api.Shape{Locals: list{num(), a}}, b: api.Shape{Locals: list{a, num()}}, j: api.Shape{Locals: list{top(), top()}}, is: true},
		{a: api.Shape{Stack: list{top()}}, b: api.Shape{Stack: list{num()}}, j: api.Shape{Stack: list{top()}}, is: true}, {a: api.Shape{Stack: list{long()}}, b: api.Shape{Stack: list{top()}}, j: api.Shape{Stack: list{top()}}, is: true, fits: true}, {a: api.Shape{Stack: list{top()}}, b: api.Shape{Stack: list{top()}}, j: api.Shape{Stack: list{top()}}, is: true, fits: true},
		// What is not valid joins to top, also with itself: whether it was top, its Kind says.
		{a: api.Shape{Stack: list{none}}, b: api.Shape{Stack: list{none}}}, {a: api.Shape{Stack: list{ref("X")}}, b: api.Shape{Stack: list{ref("X")}}}, {a: api.Shape{Stack: list{{Kind: api.TyInt, Name: "x"}}}, b: api.Shape{Stack: list{num()}}},
		{a: api.Shape{Stack: list{{Kind: api.TyTop, Name: "x"}}}, b: api.Shape{Stack: list{num()}}, j: api.Shape{Stack: list{top()}}, is: true}, {a: api.Shape{Stack: list{none}}, b: api.Shape{Stack: list{top()}}, j: api.Shape{Stack: list{top()}}, is: true},
		{a: api.Shape{Locals: list{none, ref("X")}}, b: api.Shape{Locals: list{none, ref("X")}}, j: api.Shape{Locals: list{top(), top()}}, is: true},
		{a: api.Shape{Stack: list{ref("[I")}}, b: api.Shape{Stack: list{ref("[J")}}, j: api.Shape{Stack: list{ref(object)}}, is: true},
	} {
		if j, is := vtype.JoinAll(h, x.a, x.b); is != x.is || !equal(j, x.j) {
			t.Error("JoinAll", x, j, is)
		}
		if j, is := vtype.JoinAll(h, x.b, x.a); is != x.is || !equal(j, x.j) {
			t.Error("JoinAll", x, j, is)
		}
		if vtype.FitsAll(h, x.a, x.b) != x.fits {
			t.Error("FitsAll", x)
		}
		hold(t, h, x.a, x.b)
		hold(t, h, x.b, x.a)
	}
}

func TestSame(t *testing.T) {
	a := api.Shape{Locals: list{num(), ref("A"), long(), top()}, Stack: list{null(), {Kind: 9, Name: "x"}}}
	if !vtype.Same(a, a) || !vtype.Same(api.Shape{}, api.Shape{Locals: list{}, Stack: list{}}) || !vtype.Same(api.Shape{Locals: list{}, Stack: list{num()}}, api.Shape{Stack: list{num()}}) {
		t.Error("not the same")
	}
	if vtype.Same(a, api.Shape{}) || vtype.Same(api.Shape{}, a) || vtype.Same(api.Shape{Locals: list{num()}}, api.Shape{Stack: list{num()}}) {
		t.Error("the same")
	}
	for _, change := range []func(*api.Shape){
		func(s *api.Shape) { s.Locals[0].Kind = api.TyTop }, func(s *api.Shape) { s.Locals[1].Name = "B" }, func(s *api.Shape) { s.Locals[3].Name = "x" }, func(s *api.Shape) { s.Stack[0].Kind = api.TyRef }, func(s *api.Shape) { s.Stack[1].Name = "" }, func(s *api.Shape) { s.Stack[1].Kind = 10 },
		func(s *api.Shape) { s.Locals = s.Locals[:3] }, func(s *api.Shape) { s.Locals = s.Locals[1:] }, func(s *api.Shape) { s.Stack = s.Stack[:1] }, func(s *api.Shape) { s.Locals = append(s.Locals, top()) }, func(s *api.Shape) { s.Stack = nil }, func(s *api.Shape) { s.Stack = append(s.Stack, s.Stack[1]) },
	} {
		b := vtype.Clone(a)
		if !vtype.Same(a, b) || !vtype.Same(b, a) {
			t.Error("Clone", b)
		}
		change(&b)
		if vtype.Same(a, b) || vtype.Same(b, a) {
			t.Error(b)
		}
	}
}

// TestRandomShapes has shapes that are nearly as long, of a few types.
func TestRandomShapes(t *testing.T) {
	h, _ := made(t, "C", "A:C", "B:C", "D:A")
	few := list{top(), num(), long(), null(), ref("A"), ref("B"), ref("D"), ref("[LA;"), ref("[LB;"), ref("[I"), ref("X")}
	r := numbers(3)
	take := func(n, kinds int) list {
		var l list
		for range n {
			l = append(l, few[len(few)-1-(r.below(kinds)+4)%len(few)])
		}
		return l
	}
	for range 20000 {
		n, k := r.below(4), r.below(4)
		kinds := 1 + r.below(len(few))
		a := api.Shape{Locals: take(n, kinds), Stack: take(k, kinds)}
		b := api.Shape{Locals: take(n+r.below(20)/19, kinds), Stack: take(k+r.below(20)/19, kinds)}
		hold(t, h, a, b)
		// FitsAll and JoinAll are to shapes what P11.6 and P11.7 say of types, as long as all are valid.
		if j, is := vtype.JoinAll(h, a, b); is && len(valid(h, slices.Concat(a.Locals, a.Stack, b.Locals, b.Stack))) == 2*(n+k) && (!vtype.FitsAll(h, a, j) || !vtype.FitsAll(h, b, j) || !vtype.FitsAll(h, j, j)) {
			t.Error(a, b, j)
		}
	}
}

// fill writes to all that a list has room for.
func fill(l list) {
	for i := range l[:cap(l)] {
		l[:cap(l)][i] = ref("Y")
	}
}

// TestNobodysElse writes to what was handed in, also behind its end, and to what was answered.
func TestNobodysElse(t *testing.T) {
	h, _ := made(t, "C", "A:C", "B:C")
	room := func(x ...api.Type) (list, list) {
		l := append(make(list, 0, 20), x...)
		return l, l[:20]
	}
	al, wholeAL := room(ref("A"), num())
	as, wholeAS := room(ref("B"), long())
	a := api.Shape{Locals: al, Stack: as}
	was := api.Shape{Locals: list{ref("A"), num()}, Stack: list{ref("B"), long()}}
	j, is := vtype.JoinAll(h, a, a)
	c := vtype.Clone(a)
	if !is || !equal(j, was) || !equal(c, was) {
		t.Fatal(j, c)
	}
	for _, l := range []list{wholeAL, wholeAS} {
		if slices.ContainsFunc(l[2:], func(x api.Type) bool { return x != api.Type{} }) {
			t.Error("written to")
		}
		for i := range l {
			l[i] = ref("X")
		}
	}
	if !equal(j, was) || !equal(c, was) {
		t.Error("kept", j, c)
	}
	for _, s := range []api.Shape{j, c} {
		// Behind the end of the one list nothing of the other may stand.
		fill(s.Locals)
		if !slices.Equal(s.Stack, was.Stack) {
			t.Error("shared", s)
		}
		fill(s.Stack)
	}
	if al[0] != ref("X") || as[1] != ref("X") {
		t.Error("what was handed in is written to")
	}
	// What a list of types is handed in as, stays as it is.
	l, whole := room(long(), num())
	if vtype.Slots(l...) != 3 || !slices.Equal(whole[:3], list{long(), num(), {}}) {
		t.Error(whole)
	}
	if x := vtype.Clone(api.Shape{}); len(x.Locals)+len(x.Stack) != 0 {
		t.Error(x)
	}
}

// TestNotMade has hierarchies that no call made: no class is one there, and so nothing stands above two arrays.
func TestNotMade(t *testing.T) {
	for _, h := range []*hier.Hier{nil, {}, new(hier.Hier)} {
		for _, x := range []api.Type{ref(object), ref("A"), ref(""), ref("[LA;"), ref("[L" + object + ";")} {
			if vtype.Valid(h, x) || vtype.Fits(h, x, x) || vtype.Fits(h, x, top()) || vtype.Fits(h, null(), x) || vtype.Join(h, x, x) != top() || vtype.Join(h, null(), x) != top() {
				t.Error(x)
			}
		}
		l := list{top(), num(), long(), null(), ref("[I"), ref("[J"), ref("[[I"), ref("[[[J"), ref(dims(16) + "I"), ref(dims(15) + "J")}
		holdOrder(t, h, types(nil))
		holdJoin(t, h, l)
		for _, a := range l {
			for _, b := range l {
				j := top()
				if a == b || b.Kind == api.TyRef && a == null() {
					j = b
				} else if a.Kind == api.TyRef && b == null() {
					j = a
				}
				if !vtype.Valid(h, a) || vtype.Fits(h, a, b) != (b == j) || vtype.Join(h, a, b) != j {
					t.Error(a, b, vtype.Join(h, a, b))
				}
				hold(t, h, api.Shape{Locals: list{a}, Stack: list{b}}, api.Shape{Locals: list{b}, Stack: list{a}})
			}
		}
	}
}
