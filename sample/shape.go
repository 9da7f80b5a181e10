package sample

import (
	"strings"

	"tabard/api"
	"tabard/vtype"
)

// Type is the type of a text such as vtype.Text answers.
func Type(s string) api.Type {
	for kind, name := range []string{api.TyTop: "top", api.TyInt: "int", api.TyLong: "long", api.TyNull: "null"} {
		if s == name {
			return api.Type{Kind: kind}
		}
	}
	return api.Type{Kind: api.TyRef, Name: s}
}

// Types is the types of texts with blanks between.
func Types(s string) []api.Type {
	var l []api.Type
	for _, x := range strings.Fields(s) {
		l = append(l, Type(x))
	}
	return l
}

// Shape is the shape whose locals and whose stack are told by texts.
func Shape(locals, stack string) api.Shape {
	return api.Shape{Locals: Types(locals), Stack: Types(stack)}
}

// Text is a shape as people read it.
func Text(s api.Shape) string {
	var w []string
	for _, l := range [][]api.Type{s.Locals, s.Stack} {
		for _, t := range l {
			w = append(w, vtype.Text(t))
		}
		w = append(w, "/")
	}
	return strings.Join(w, " ")
}
