package classfile_test

import (
	"math"
	"slices"
	"strings"

	"tabard/api"
)

// fault is something wrong in a class, and what Check says of it.
type fault struct {
	e api.Errno
	f func(c *api.Class)
}

// headFaults are those of the class itself, one list for each thing that is asked, in the document's order.
func headFaults() [][]fault {
	access := func(n int) fault { return fault{api.ErrAccess, func(c *api.Class) { c.Access = n }} }
	version := func(minor, major int) fault {
		return fault{api.ErrVersion, func(c *api.Class) { c.Minor, c.Major = minor, major }}
	}
	pool := func(e api.Errno, f func(c *api.Class)) fault { return fault{e, f} }
	this := func(e api.Errno, i int) fault { return fault{e, func(c *api.Class) { c.This = i }} }
	super := func(e api.Errno, i int) fault { return fault{e, func(c *api.Class) { c.Super = i }} }
	return [][]fault{
		{version(1, 52), version(-1, 52), version(0, 44), version(0, 53), version(0, 0), version(0, -45), version(0, math.MinInt), version(0, math.MaxInt), version(math.MinInt, 45), version(1<<16, 50), version(0, 1<<16+50), version(3, 45), version(52, 0)},
		{
			pool(api.ErrTag, func(c *api.Class) { c.Pool[0].N = 1 }), pool(api.ErrTag, func(c *api.Class) { c.Pool = c.Pool[1:] }), pool(api.ErrTag, func(c *api.Class) { c.Pool[atLong+1] = num(1) }), pool(api.ErrTag, func(c *api.Class) { c.Pool[poolSize-1].Tag = 2 }),
			pool(api.ErrTag, func(c *api.Class) { c.Pool[atAClass].A = -1 }), pool(api.ErrUtf, func(c *api.Class) { c.Pool[atBad].Text = "\x00" }), pool(api.ErrUtf, func(c *api.Class) { c.Pool[atA].Text = strings.Repeat("A", 256) }), pool(api.ErrLong, func(c *api.Class) { c.Pool = append(c.Pool, make([]api.Const, 4097-poolSize)...) }),
		},
		{access(2), access(4), access(8), access(9), access(16), access(64), access(0x21 | 2), access(0x200), access(0x8000), access(1 << 16), access(1<<32 | 1), access(-1), access(math.MinInt), access(math.MaxInt)},
		{
			this(api.ErrPool, 0), this(api.ErrPool, atA), this(api.ErrPool, -1), this(api.ErrPool, poolSize), this(api.ErrPool, atLong), this(api.ErrPool, atLong+1), this(api.ErrPool, atIntCl), this(api.ErrPool, atFarCl), this(api.ErrPool, 1<<16+atAClass), this(api.ErrPool, 1<<32+atAClass), this(api.ErrPool, math.MinInt), this(api.ErrPool, math.MaxInt),
		},
		{this(api.ErrIdent, atBadCl), this(api.ErrIdent, atNothCl), this(api.ErrIdent, atArrCl), this(api.ErrIdent, atOddCl)},
		{
			super(api.ErrPool, 0), super(api.ErrPool, atA), super(api.ErrPool, -1), super(api.ErrPool, poolSize), super(api.ErrPool, atInt), super(api.ErrPool, atIntCl), super(api.ErrPool, atFarCl), super(api.ErrPool, 1<<16+atAClass), super(api.ErrPool, math.MinInt), super(api.ErrPool, math.MaxInt),
		},
		{super(api.ErrIdent, atBadCl), super(api.ErrIdent, atNothCl), super(api.ErrIdent, atArrCl), super(api.ErrIdent, atOddCl)},
		{
			{api.ErrLong, func(c *api.Class) { c.Fields = append(c.Fields, make([]api.Member, max(0, 257-len(c.Fields)))...) }}, {api.ErrLong, func(c *api.Class) { c.Methods = append(c.Methods, make([]api.Member, max(0, 257-len(c.Methods)))...) }},
			{api.ErrLong, func(c *api.Class) { c.Fields = make([]api.Member, 10000) }}, {api.ErrLong, func(c *api.Class) { c.Methods = make([]api.Member, 10000) }},
		},
	}
}

// nameFaults are those that fields and methods have alike, of the member that is picked.
func nameFaults(pick func(c *api.Class) *api.Member) [][]fault {
	with := func(e api.Errno, f func(m *api.Member)) fault {
		return fault{e, func(c *api.Class) { f(pick(c)) }}
	}
	access := func(n int) fault { return with(api.ErrAccess, func(m *api.Member) { m.Access = n }) }
	name := func(e api.Errno, i int) fault { return with(e, func(m *api.Member) { m.Name = i }) }
	desc := func(e api.Errno, i int) fault { return with(e, func(m *api.Member) { m.Desc = i }) }
	return [][]fault{
		{access(2), access(4), access(16), access(32), access(33), access(9 | 2), access(0x400), access(0x8000), access(1 << 16), access(-1), access(-8), access(math.MinInt), access(math.MaxInt)},
		{name(api.ErrPool, 0), name(api.ErrPool, -1), name(api.ErrPool, atAClass), name(api.ErrPool, poolSize), name(api.ErrPool, atInt), name(api.ErrPool, atLong+1), name(api.ErrPool, 1<<16+atX), name(api.ErrPool, math.MinInt), name(api.ErrPool, math.MaxInt)},
		{desc(api.ErrPool, 0), desc(api.ErrPool, -1), desc(api.ErrPool, atAClass), desc(api.ErrPool, poolSize), desc(api.ErrPool, atInt), desc(api.ErrPool, atLong+1), desc(api.ErrPool, 1<<16+atJ), desc(api.ErrPool, math.MinInt), desc(api.ErrPool, math.MaxInt)},
		{name(api.ErrIdent, atBad), name(api.ErrIdent, atNothing), name(api.ErrIdent, atArray), name(api.ErrIdent, 4)}, // java/lang/Object is no member's
	}
}

func fieldFaults() [][]fault {
	second := func(c *api.Class) *api.Member { return &c.Fields[1] }
	with := func(e api.Errno, f func(m *api.Member)) fault {
		return fault{e, func(c *api.Class) { f(second(c)) }}
	}
	return append(nameFaults(second),
		[]fault{
			with(api.ErrDesc, func(m *api.Member) { m.Desc = atVoid }), with(api.ErrDesc, func(m *api.Member) { m.Desc = atNothing }), with(api.ErrDesc, func(m *api.Member) { m.Desc = atA }), with(api.ErrDesc, func(m *api.Member) { m.Desc = atBad }), with(api.ErrDesc, func(m *api.Member) { m.Desc = atFDesc }),
		},
		[]fault{
			with(api.ErrMember, func(m *api.Member) { m.Name = atInit }), with(api.ErrMember, func(m *api.Member) { m.Stack = 1 }), with(api.ErrMember, func(m *api.Member) { m.Stack = -1 }), with(api.ErrMember, func(m *api.Member) { m.Stack = math.MinInt }), with(api.ErrMember, func(m *api.Member) { m.Locals = 1 }), with(api.ErrMember, func(m *api.Member) { m.Locals = -1 }),
			with(api.ErrMember, func(m *api.Member) { m.Code = []byte{177} }), with(api.ErrMember, func(m *api.Member) { m.Code = []byte{0} }), with(api.ErrMember, func(m *api.Member) { m.Handlers = []api.Handler{{}} }),
		},
		[]fault{
			with(api.ErrTwice, func(m *api.Member) { m.Name, m.Desc = atX, atJ }), with(api.ErrTwice, func(m *api.Member) { m.Name, m.Desc = atXAgain, atJ }), with(api.ErrTwice, func(m *api.Member) { m.Name, m.Desc = atX, atJAgain }), with(api.ErrTwice, func(m *api.Member) { m.Name, m.Desc = atXAgain, atJAgain }),
		},
	)
}

func methodFaults() [][]fault {
	second := func(c *api.Class) *api.Member { return &c.Methods[1] }
	with := func(e api.Errno, f func(m *api.Member)) fault {
		return fault{e, func(c *api.Class) { f(second(c)) }}
	}
	// twice puts a method ahead of the other that has the same name and descriptor.
	twice := func(name, desc int) fault {
		return fault{api.ErrTwice, func(c *api.Class) {
			c.Methods[0], c.Methods[0].Name, c.Methods[0].Desc = method(), name, desc
			c.Methods[1].Name, c.Methods[1].Desc = atF, atFDesc
		}}
	}
	stack := func(n int) fault { return with(api.ErrLong, func(m *api.Member) { m.Stack = n }) }
	locals := func(n int) fault { return with(api.ErrLong, func(m *api.Member) { m.Locals = n }) }
	return append(nameFaults(second),
		[]fault{
			with(api.ErrDesc, func(m *api.Member) { m.Desc = atJ }), with(api.ErrDesc, func(m *api.Member) { m.Desc = atNothing }), with(api.ErrDesc, func(m *api.Member) { m.Desc = atA }), with(api.ErrDesc, func(m *api.Member) { m.Desc = atArray }),
		},
		[]fault{twice(atF, atFDesc), twice(atFAgain, atFDesc), twice(atF, atFDAgain), twice(atFAgain, atFDAgain)},
		[]fault{
			with(api.ErrMember, func(m *api.Member) { m.Name, m.Desc = atInit, atFDesc }), with(api.ErrMember, func(m *api.Member) { m.Access, m.Name, m.Desc = 0, atInit, atFDesc }), with(api.ErrMember, func(m *api.Member) { m.Access, m.Name, m.Desc, m.Locals = 1, atInit, atNotV, 2 }),
			with(api.ErrMember, func(m *api.Member) { m.Access, m.Name, m.Desc, m.Locals = 9, atInit, atWide, 64 }),
		},
		[]fault{stack(-1), stack(65), stack(1 << 16), stack(math.MinInt), stack(math.MaxInt), locals(-1), locals(65), locals(1 << 16), locals(math.MinInt), locals(math.MaxInt)},
		[]fault{with(api.ErrMember, func(m *api.Member) { m.Locals = 0 }), with(api.ErrMember, func(m *api.Member) { m.Access = 0 }), with(api.ErrMember, func(m *api.Member) { m.Access = 1 }), with(api.ErrMember, func(m *api.Member) { m.Desc, m.Locals = atWide, 63 }), with(api.ErrMember, func(m *api.Member) { m.Access, m.Desc, m.Locals = 0, atWide, 64 })},
		codeFaults(with),
		[]fault{with(api.ErrLong, func(m *api.Member) { m.Handlers = slices.Repeat(method().Handlers[:1], 65) }), with(api.ErrLong, func(m *api.Member) { m.Handlers = make([]api.Handler, 1000) })},
		handlerFaults(with, func(h api.Handler) []api.Handler { return []api.Handler{h} }),
	)
}

func codeFaults(with func(api.Errno, func(*api.Member)) fault) []fault {
	code := func(e api.Errno, b ...byte) fault { return with(e, func(m *api.Member) { m.Code = b }) }
	return []fault{
		code(api.ErrShort), code(api.ErrShort, 26, 16), code(api.ErrOpcode, 99), code(api.ErrOpcode, 177, 255), code(api.ErrJump, 167, 0, 1), code(api.ErrField, 188, 9), with(api.ErrShort, func(m *api.Member) { m.Code = nil }),
		with(api.ErrLong, func(m *api.Member) { m.Code = make([]byte, 4097) }), with(api.ErrLong, func(m *api.Member) { m.Code = slices.Repeat([]byte{99}, 5000) }),
	}
}

// handlerFaults are handlers that may not be in method's code, among those that stand beside it.
func handlerFaults(with func(api.Errno, func(*api.Member)) fault, beside func(api.Handler) []api.Handler) []fault {
	var l []fault
	for _, x := range []struct {
		e api.Errno
		h api.Handler
	}{
		{api.ErrHandler, api.Handler{From: 0, To: 0, At: 0}}, {api.ErrHandler, api.Handler{From: 3, To: 1, At: 0}}, {api.ErrHandler, api.Handler{From: 1, To: 1, At: 0}}, {api.ErrHandler, api.Handler{From: 5, To: 5, At: 0}}, {api.ErrHandler, api.Handler{From: 4, To: 3, At: 0}},
		{api.ErrHandler, api.Handler{From: 2, To: 5, At: 0}}, {api.ErrHandler, api.Handler{From: -1, To: 5, At: 0}}, {api.ErrHandler, api.Handler{From: 5, To: 6, At: 0}}, {api.ErrHandler, api.Handler{From: math.MinInt, To: 5, At: 0}}, {api.ErrHandler, api.Handler{From: 6, To: math.MaxInt, At: 0}}, {api.ErrHandler, api.Handler{From: -2, To: -1, At: 0}},
		{api.ErrHandler, api.Handler{From: 0, To: 2, At: 0}}, {api.ErrHandler, api.Handler{From: 0, To: 6, At: 0}}, {api.ErrHandler, api.Handler{From: 0, To: math.MaxInt, At: 0}}, {api.ErrHandler, api.Handler{From: 0, To: -1, At: 0}}, {api.ErrHandler, api.Handler{From: 0, To: 1<<16 + 5, At: 0}},
		{api.ErrHandler, api.Handler{From: 0, To: 5, At: 2}}, {api.ErrHandler, api.Handler{From: 0, To: 5, At: 5}}, {api.ErrHandler, api.Handler{From: 0, To: 5, At: -1}}, {api.ErrHandler, api.Handler{From: 0, To: 5, At: 6}}, {api.ErrHandler, api.Handler{From: 0, To: 5, At: math.MinInt}}, {api.ErrHandler, api.Handler{From: 0, To: 5, At: math.MaxInt}},
		// The addresses are asked ahead of the class.
		{api.ErrHandler, api.Handler{From: 0, To: 0, At: 0, Type: atA}}, {api.ErrHandler, api.Handler{From: 0, To: 5, At: 2, Type: -1}}, {api.ErrHandler, api.Handler{From: 0, To: 2, At: 0, Type: atBadCl}},
		{api.ErrPool, api.Handler{From: 0, To: 5, At: 0, Type: -1}}, {api.ErrPool, api.Handler{From: 0, To: 5, At: 0, Type: atA}}, {api.ErrPool, api.Handler{From: 0, To: 5, At: 0, Type: poolSize}}, {api.ErrPool, api.Handler{From: 0, To: 5, At: 0, Type: atIntCl}}, {api.ErrPool, api.Handler{From: 0, To: 5, At: 0, Type: 1<<16 + atAClass}}, {api.ErrPool, api.Handler{From: 0, To: 5, At: 0, Type: math.MinInt}}, {api.ErrPool, api.Handler{From: 0, To: 5, At: 0, Type: math.MaxInt}},
		{api.ErrIdent, api.Handler{From: 0, To: 5, At: 0, Type: atBadCl}}, {api.ErrIdent, api.Handler{From: 0, To: 5, At: 0, Type: atArrCl}}, {api.ErrIdent, api.Handler{From: 0, To: 5, At: 0, Type: atOddCl}},
	} {
		l = append(l, with(x.e, func(m *api.Member) { m.Handlers = beside(x.h) }))
	}
	return l
}

// faults are all of them, in the order in which they are asked.
func faults() [][]fault {
	noCode := fault{api.ErrAttr, func(c *api.Class) {
		for i := range c.Pool {
			if c.Pool[i].Text == "Code" {
				c.Pool[i].Text = "code"
			}
		}
	}}
	return append(slices.Concat(headFaults(), fieldFaults(), methodFaults()), []fault{noCode})
}
