package classfile

import (
	"tabard/api"
	"tabard/cpool"
	"tabard/desc"
	"tabard/opcode"
)

// Bits of Access that may be.
const (
	classBits  = api.AccPublic | api.AccSuper
	memberBits = api.AccPublic | api.AccStatic
)

// Check tells whether a class may be.
func Check(c api.Class) api.Errno {
	asks := []func(api.Class) api.Errno{checkHead, checkFields, checkMethods, checkCodeName}
	return first(asks, func(ask func(api.Class) api.Errno) api.Errno { return ask(c) })
}

// first is the first error that is told of things in a list.
func first[T any](l []T, ask func(T) api.Errno) api.Errno {
	for _, x := range l {
		if e := ask(x); e != api.OK {
			return e
		}
	}
	return api.OK
}

func checkHead(c api.Class) api.Errno {
	if !isVersion(c.Minor, c.Major) {
		return api.ErrVersion
	}
	if e := cpool.Check(c.Pool); e != api.OK {
		return e
	}
	if c.Access&^classBits != 0 {
		return api.ErrAccess
	}
	e := first([]int{c.This, c.Super}, func(i int) api.Errno { return checkClassAt(c.Pool, i) })
	if e != api.OK {
		return e
	}
	if len(c.Fields) > api.MaxMembers || len(c.Methods) > api.MaxMembers {
		return api.ErrLong
	}
	return api.OK
}

// isVersion tells whether class files of a version are read.
func isVersion(minor, major int) bool {
	return minor == 0 && firstMajor <= major && major <= lastMajor
}

// checkClassAt tells whether the entry at an index names a class.
func checkClassAt(pool []api.Const, i int) api.Errno {
	name, e := cpool.Class(pool, i)
	if e != api.OK {
		return e
	}
	return desc.ClassName(name)
}

func checkFields(c api.Class) api.Errno {
	ahead := names{}
	return first(c.Fields, func(m api.Member) api.Errno {
		n, e := checkName(c, m)
		if e != api.OK {
			return e
		}
		if _, e := desc.Field(n.Desc); e != api.OK {
			return e
		}
		if n.Name == initName || m.Stack != 0 || m.Locals != 0 || len(m.Code) > 0 || len(m.Handlers) > 0 {
			return api.ErrMember
		}
		return ahead.add(n)
	})
}

func checkMethods(c api.Class) api.Errno {
	ahead := names{}
	return first(c.Methods, func(m api.Member) api.Errno {
		n, e := checkName(c, m)
		if e != api.OK {
			return e
		}
		args, ret, e := desc.Method(n.Desc)
		if e != api.OK {
			return e
		}
		if e := ahead.add(n); e != api.OK {
			return e
		}
		if n.Name == initName && (isStatic(m) || ret.Kind != api.TyTop) {
			return api.ErrMember
		}
		if e := checkFrame(m, args); e != api.OK {
			return e
		}
		return checkCode(c.Pool, m)
	})
}

// names are the members that a list has ahead of one.
type names map[api.Named]struct{}

// add puts a member to them, which must not be there.
func (l names) add(n api.Named) api.Errno {
	if _, twice := l[n]; twice {
		return api.ErrTwice
	}
	l[n] = struct{}{}
	return api.OK
}

// checkName asks what is asked of each member ahead of its descriptor, and answers its name with that.
func checkName(c api.Class, m api.Member) (api.Named, api.Errno) {
	if m.Access&^memberBits != 0 {
		return api.Named{}, api.ErrAccess
	}
	n, e := Member(c, m)
	if e != api.OK {
		return api.Named{}, e
	}
	return n, desc.MemberName(n.Name)
}

// checkFrame tells whether a method with such arguments may have its Stack and its Locals.
func checkFrame(m api.Member, args []api.Type) api.Errno {
	if m.Stack < 0 || m.Stack > api.MaxStack || m.Locals < 0 || m.Locals > api.MaxLocals {
		return api.ErrLong
	}
	slots := desc.Slots(args...)
	if !isStatic(m) {
		slots++
	}
	if slots > m.Locals {
		return api.ErrMember
	}
	return api.OK
}

func isStatic(m api.Member) bool { return m.Access&api.AccStatic != 0 }

// checkCode tells whether a method's Code and its Handlers may be.
func checkCode(pool []api.Const, m api.Member) api.Errno {
	l, e := opcode.Decode(m.Code)
	if e != api.OK {
		return e
	}
	if len(m.Handlers) > api.MaxHandlers {
		return api.ErrLong
	}
	begins := make([]bool, len(m.Code))
	for _, x := range l {
		begins[x.At] = true
	}
	return first(m.Handlers, func(h api.Handler) api.Errno {
		if !isRange(h, begins) {
			return api.ErrHandler
		}
		if h.Type == 0 {
			return api.OK
		}
		return checkClassAt(pool, h.Type)
	})
}

// isRange tells whether a handler's addresses may be, of code whose instructions begin where it is said.
func isRange(h api.Handler, begins []bool) bool {
	is := func(at int) bool { return 0 <= at && at < len(begins) && begins[at] }
	return h.From < h.To && is(h.From) && is(h.At) && (is(h.To) || h.To == len(begins))
}

func checkCodeName(c api.Class) api.Errno {
	if _, is := cpool.Find(c.Pool, utf8(codeName)); !is && len(c.Methods) > 0 {
		return api.ErrAttr
	}
	return api.OK
}
