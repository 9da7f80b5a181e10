package vtype

import (
	"slices"

	"tabard/api"
	"tabard/hier"
)

// FitsAll tells whether a frame of the shape a may be where b is asked for.
func FitsAll(h *hier.Hier, a, b api.Shape) bool {
	one := func(x, y api.Type) bool { return Fits(h, x, y) }
	return alike(a.Locals, b.Locals, one) && alike(a.Stack, b.Stack, one)
}

// JoinAll is the least shape that both fit; false, if there is none whose stack is of use.
func JoinAll(h *hier.Hier, a, b api.Shape) (api.Shape, bool) {
	s := api.Shape{Locals: slices.Grow[[]api.Type](nil, len(a.Locals)), Stack: slices.Grow[[]api.Type](nil, len(a.Stack))}
	local := func(x, y api.Type) bool {
		s.Locals = append(s.Locals, Join(h, x, y))
		return true
	}
	place := func(x, y api.Type) bool {
		t := Join(h, x, y)
		s.Stack = append(s.Stack, t)
		return t.Kind != api.TyTop || x.Kind == api.TyTop || y.Kind == api.TyTop
	}
	if !alike(a.Locals, b.Locals, local) || !alike(a.Stack, b.Stack, place) {
		return api.Shape{}, false
	}
	return s, true
}

// Same tells whether two shapes are the same.
func Same(a, b api.Shape) bool {
	one := func(x, y api.Type) bool { return x == y }
	return alike(a.Locals, b.Locals, one) && alike(a.Stack, b.Stack, one)
}

// Clone is the same shape in memory of its own.
func Clone(s api.Shape) api.Shape {
	return api.Shape{Locals: slices.Clone(s.Locals), Stack: slices.Clone(s.Stack)}
}

// alike tells whether two lists are as long, and each two that stand at one place are such. It asks them in order, each two once, up to the first that are not.
func alike[T any](a, b []T, such func(x, y T) bool) bool {
	if len(a) != len(b) {
		return false
	}
	for i, x := range a {
		if !such(x, b[i]) {
			return false
		}
	}
	return true
}
