package classfile_test

import (
	"bytes"
	"slices"

	"tabard/api"
)

// copied is a class in memory of its own; it is not asked of the package that is tested.
func copied(c api.Class) api.Class {
	c.Pool = append([]api.Const(nil), c.Pool...)
	c.Fields = copiedMembers(c.Fields)
	c.Methods = copiedMembers(c.Methods)
	return c
}

func copiedMembers(l []api.Member) []api.Member {
	var all []api.Member
	for _, m := range l {
		all = append(all, copiedMember(m))
	}
	return all
}

func copiedMember(m api.Member) api.Member {
	m.Code = append([]byte(nil), m.Code...)
	m.Handlers = append([]api.Handler(nil), m.Handlers...)
	return m
}

// alike tells whether two classes are the same, field by field.
func alike(a, b api.Class) bool {
	return a.Minor == b.Minor && a.Major == b.Major && slices.Equal(a.Pool, b.Pool) && a.Access == b.Access && a.This == b.This && a.Super == b.Super && alikeMembers(a.Fields, b.Fields) && alikeMembers(a.Methods, b.Methods)
}

func alikeMembers(a, b []api.Member) bool {
	if len(a) != len(b) {
		return false
	}
	for i, x := range a {
		y := b[i]
		if x.Access != y.Access || x.Name != y.Name || x.Desc != y.Desc || x.Stack != y.Stack || x.Locals != y.Locals || !bytes.Equal(x.Code, y.Code) || !slices.Equal(x.Handlers, y.Handlers) {
			return false
		}
	}
	return true
}

// isZero tells whether a class is the zero value.
func isZero(c api.Class) bool { return alike(c, api.Class{}) }
