package classfile

import (
	"bytes"
	"slices"

	"tabard/api"
)

// Same tells whether two classes are the same.
func Same(a, b api.Class) bool {
	return a.Minor == b.Minor && a.Major == b.Major && a.Access == b.Access && a.This == b.This && a.Super == b.Super &&
		slices.Equal(a.Pool, b.Pool) && slices.EqualFunc(a.Fields, b.Fields, sameMember) && slices.EqualFunc(a.Methods, b.Methods, sameMember)
}

func sameMember(a, b api.Member) bool {
	return a.Access == b.Access && a.Name == b.Name && a.Desc == b.Desc && a.Stack == b.Stack && a.Locals == b.Locals &&
		bytes.Equal(a.Code, b.Code) && slices.Equal(a.Handlers, b.Handlers)
}

// Clone is the same class in memory of its own.
func Clone(c api.Class) api.Class {
	c.Pool = slices.Clone(c.Pool)
	c.Fields = cloneEach(c.Fields, cloneMember)
	c.Methods = cloneEach(c.Methods, cloneMember)
	return c
}

func cloneMember(m api.Member) api.Member {
	m.Code = bytes.Clone(m.Code)
	m.Handlers = slices.Clone(m.Handlers)
	return m
}

// cloneEach is a list of the clones of what stands in one.
func cloneEach[T any](l []T, clone func(T) T) []T {
	l = slices.Clone(l)
	for i, x := range l {
		l[i] = clone(x)
	}
	return l
}
