package vtype_test

import (
	"testing"

	"tabard/api"
	"tabard/hier"
	"tabard/vtype"
)

// TestReadme is what README.md shows.
func TestReadme(t *testing.T) {
	h, e := hier.New(api.Line{Name: "C", Super: "java/lang/Object"}, api.Line{Name: "A", Super: "C"}, api.Line{Name: "B", Super: "C"})
	if e != api.OK {
		t.Fatal(e)
	}
	whole, a := api.Type{Kind: api.TyInt}, api.Type{Kind: api.TyRef, Name: "[LA;"}
	b, is := vtype.Array(api.Type{Kind: api.TyRef, Name: "B"})
	if b.Name != "[LB;" || !is || vtype.Fits(h, a, b) {
		t.Error(b, is)
	}
	c := vtype.Join(h, a, b)
	elem, too := vtype.Element(c)
	if vtype.Text(c) != "[LC;" || elem.Name != "C" || !too || !vtype.Fits(h, b, c) || vtype.Valid(h, api.Type{Kind: api.TyRef, Name: "X"}) {
		t.Error(c, elem)
	}
	s := api.Shape{Locals: []api.Type{whole}, Stack: []api.Type{a}}
	u := api.Shape{Locals: []api.Type{a}, Stack: []api.Type{b}}
	both, is := vtype.JoinAll(h, s, u)
	if !is || both.Locals[0].Kind != api.TyTop || both.Stack[0] != c || !vtype.FitsAll(h, s, both) || vtype.Slots(both.Stack...) != 1 || !vtype.Same(both, vtype.Clone(both)) {
		t.Error(both, is)
	}
	if _, is = vtype.JoinAll(h, s, api.Shape{Locals: s.Locals, Stack: s.Locals}); is {
		t.Error("stacks of int and of a reference")
	}
}
