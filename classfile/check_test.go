package classfile_test

import (
	"slices"
	"strings"
	"testing"

	"tabard/api"
	"tabard/classfile"
)

func checkCheck(t *testing.T, c api.Class, want api.Errno) {
	t.Helper()
	if e := meantCheck(c); e != want {
		t.Fatal("the test itself is wrong", e, want)
	}
	kept := copied(c)
	if e := classfile.Check(c); e != want {
		t.Errorf("Check: %d, not %d", e, want)
	}
	if b, e := classfile.Encode(c); e != want || (e == api.OK) != (b != nil) {
		t.Errorf("Encode: %d, not %d", e, want)
	}
	if !alike(c, kept) {
		t.Error("Check or Encode has written to the class")
	}
}

func TestCheckOfTheSample(t *testing.T) {
	checkCheck(t, sample(), api.OK)
}

func TestCheckOfEachFault(t *testing.T) {
	for i, l := range faults() {
		for k, x := range l {
			c := sample()
			x.f(&c)
			if e := classfile.Check(c); e != x.e {
				t.Errorf("fault %d of step %d: %d, not %d", k, i, e, x.e)
			}
			checkCheck(t, c, x.e)
		}
	}
}

// TestCheckTellsTheFirst has two faults in one class.
func TestCheckTellsTheFirst(t *testing.T) {
	steps := faults()
	for i := range steps {
		for k := range steps[:i] {
			for _, late := range steps[i] {
				for _, early := range steps[k] {
					c := sample()
					late.f(&c)
					// A later fault may have left nothing for the earlier one to be put to.
					if len(c.Fields) < 2 || len(c.Methods) < 2 || len(c.Pool) < poolSize-1 {
						continue
					}
					early.f(&c)
					if e := classfile.Check(c); e != early.e {
						t.Fatalf("step %d ahead of step %d: %d, not %d", k, i, e, early.e)
					}
				}
			}
		}
	}
}

// TestCheckGoesByMembers has a fault in each of two members, or handlers: the first of them is told, whatever is asked first of each.
func TestCheckGoesByMembers(t *testing.T) {
	for _, x := range slices.Concat(fieldFaults()...) {
		for _, y := range slices.Concat(fieldFaults()...) {
			c, other := sample(), sample()
			x.f(&c)
			y.f(&other)
			c.Fields = append(c.Fields, other.Fields[1])
			c.Methods[0].Access = 2
			if e := classfile.Check(c); e != x.e {
				t.Fatal(e, x.e, y.e)
			}
		}
	}
	for _, x := range slices.Concat(methodFaults()...) {
		for _, y := range slices.Concat(methodFaults()...) {
			c, other := sample(), sample()
			x.f(&c)
			y.f(&other)
			c.Methods = append(c.Methods, other.Methods[1])
			c.Pool[1].Text, c.Pool[13].Text = "code", "code"
			if e := classfile.Check(c); e != x.e {
				t.Fatal(e, x.e, y.e)
			}
		}
	}
}

func TestCheckGoesByHandlers(t *testing.T) {
	with := func(e api.Errno, f func(*api.Member)) fault {
		return fault{e, func(c *api.Class) { f(&c.Methods[1]) }}
	}
	good := method().Handlers[1]
	alone := func(h api.Handler) []api.Handler { return []api.Handler{good, h} }
	for _, y := range handlerFaults(with, alone) {
		other := sample()
		y.f(&other)
		checkCheck(t, other, y.e)
		for _, x := range handlerFaults(with, func(h api.Handler) []api.Handler { return append(alone(h), other.Methods[1].Handlers[1], good) }) {
			c := sample()
			x.f(&c)
			checkCheck(t, c, x.e)
		}
	}
}

// TestCheckTakes has what may be, at the edges that the document names.
func TestCheckTakes(t *testing.T) {
	first := func(f func(m *api.Member)) func(c *api.Class) {
		return func(c *api.Class) { f(&c.Methods[0]) }
	}
	second := func(f func(m *api.Member)) func(c *api.Class) {
		return func(c *api.Class) { f(&c.Methods[1]) }
	}
	for i, f := range []func(c *api.Class){
		func(c *api.Class) { c.Major = 45 }, func(c *api.Class) { c.Major = 46 }, func(c *api.Class) { c.Major = 51 },
		func(c *api.Class) { c.Access = 0 }, func(c *api.Class) { c.Access = 1 }, func(c *api.Class) { c.Access = 32 },
		func(c *api.Class) { c.Super = c.This }, func(c *api.Class) { c.This = c.Super },
		func(c *api.Class) { c.Fields = nil }, func(c *api.Class) { c.Methods = nil }, func(c *api.Class) { c.Fields, c.Methods = []api.Member{}, []api.Member{} },
		func(c *api.Class) { c.Fields[0].Access = 0 }, func(c *api.Class) { c.Fields[0].Access = 9 }, func(c *api.Class) { c.Fields[1].Access = 0 },
		func(c *api.Class) { c.Fields[0].Code, c.Fields[0].Handlers = []byte{}, []api.Handler{} }, func(c *api.Class) { c.Fields[0].Desc = atArray },
		// The same name with another descriptor, or the other way round; a field and a method are not held against each other.
		func(c *api.Class) { c.Fields[1].Name = atF }, func(c *api.Class) { c.Fields[1].Name, c.Fields[1].Desc = atF, atJ }, func(c *api.Class) { c.Methods[1].Name = atX }, func(c *api.Class) { c.Fields[0].Name = atA }, func(c *api.Class) { c.Fields[0].Name = 1 },
		// The names and the descriptors of these, one behind the other, are the same text.
		func(c *api.Class) {
			c.Pool[atX].Text, c.Pool[atJ].Text, c.Pool[atF].Text, c.Pool[atI].Text = "x", "LaLb;", "xLa", "Lb;"
			c.Fields[1].Name = atF
		},
		second(func(m *api.Member) { m.Access = 9 }), second(func(m *api.Member) { m.Access, m.Locals = 1, 2 }), second(func(m *api.Member) { m.Access, m.Locals = 0, 2 }), second(func(m *api.Member) { m.Access, m.Locals = 0, 64 }),
		second(func(m *api.Member) { m.Stack = 0 }), second(func(m *api.Member) { m.Stack = 64 }), second(func(m *api.Member) { m.Locals = 64 }), second(func(m *api.Member) { m.Desc, m.Locals = atWide, 64 }), second(func(m *api.Member) { m.Desc, m.Locals = atVoid, 0 }),
		second(func(m *api.Member) { m.Desc = atNotV }),
		second(func(m *api.Member) { m.Handlers = nil }), second(func(m *api.Member) { m.Handlers = []api.Handler{} }), second(func(m *api.Member) { m.Handlers = slices.Repeat(m.Handlers, 32) }),
		second(func(m *api.Member) { m.Handlers[0] = api.Handler{From: 4, To: 5, At: 4, Type: 5} }), second(func(m *api.Member) { m.Handlers[0] = api.Handler{From: 0, To: 1, At: 0} }), second(func(m *api.Member) {
			m.Code, m.Handlers = slices.Repeat([]byte{0}, 4096), []api.Handler{{From: 4095, To: 4096, At: 4095}}
		}),
		// Nothing is asked of what instructions name, nor of how code ends.
		second(func(m *api.Member) { m.Code, m.Handlers = []byte{178, 255, 255, 18, 0, 25, 200, 0}, nil }),
		first(func(m *api.Member) { m.Access = 0 }), first(func(m *api.Member) { m.Locals = 64 }),
		func(c *api.Class) { c.Pool[1].Text = "code" }, func(c *api.Class) { c.Pool[13].Text = "code" }, func(c *api.Class) { c.Pool[1].Text, c.Pool[13].Text, c.Methods = "code", "code", nil },
		func(c *api.Class) { c.Pool[atA].Text = strings.Repeat("A", 255) }, func(c *api.Class) { c.Pool[atX].Text = strings.Repeat("x", 255) }, func(c *api.Class) { c.Pool[atJ].Text = "L" + strings.Repeat("x", 253) + ";" },
	} {
		c := sample()
		f(&c)
		if e := classfile.Check(c); e != api.OK {
			t.Error(i, e)
		}
		checkCheck(t, c, api.OK)
	}
}

func TestCheckOfConstructors(t *testing.T) {
	for _, x := range []struct {
		access, desc, locals int
		ahead                bool
		e                    api.Errno
	}{
		{0, atVoid, 1, false, api.OK}, {1, atVoid, 1, false, api.OK}, {0, atWide, 64, false, api.ErrMember}, {0, atVoid, 0, false, api.ErrMember},
		{8, atVoid, 1, false, api.ErrMember}, {9, atVoid, 1, false, api.ErrMember}, {0, atNotV, 1, false, api.ErrMember}, {1, atFDesc, 2, false, api.ErrMember},
		// That it is static, or returns something, is asked ahead of the Locals, and behind another of its name.
		{8, atVoid, 65, false, api.ErrMember}, {0, atNotV, -1, false, api.ErrMember}, {0, atVoid, 65, false, api.ErrLong}, {8, atVoid, 1, true, api.ErrTwice}, {1, atVoid, 1, true, api.ErrTwice}, {8, atVoid, 65, true, api.ErrTwice},
	} {
		c := sample()
		c.Methods[1] = api.Member{Access: x.access, Name: atInit, Desc: x.desc, Locals: x.locals, Code: []byte{177}}
		if !x.ahead {
			c.Methods = c.Methods[1:]
		}
		checkCheck(t, c, x.e)
	}
}

// many are fields, or methods, each with a name of its own.
func many(c *api.Class, n int, m api.Member) []api.Member {
	var l []api.Member
	for i := range n {
		m.Name = len(c.Pool)
		c.Pool = append(c.Pool, utf("n"+strings.Repeat("'", i%200)+strings.Repeat("!", i/200)))
		l = append(l, m)
	}
	return l
}

func TestCheckOfManyMembers(t *testing.T) {
	for _, x := range []struct {
		fields, methods int
		e               api.Errno
	}{{256, 256, api.OK}, {257, 0, api.ErrLong}, {0, 257, api.ErrLong}, {257, 257, api.ErrLong}, {256, 0, api.OK}, {0, 256, api.OK}, {1000, 1, api.ErrLong}} {
		c := sample()
		c.Fields = many(&c, x.fields, api.Member{Desc: atJ})
		c.Methods = many(&c, x.methods, method())
		checkCheck(t, c, x.e)
		if x.e != api.OK {
			continue
		}
		// The last one is held against the first one, too.
		if n := x.fields; n > 0 {
			c.Fields[n-1].Name = c.Fields[0].Name
			checkCheck(t, c, api.ErrTwice)
		} else {
			c.Methods[x.methods-1].Name = c.Methods[0].Name
			checkCheck(t, c, api.ErrTwice)
		}
	}
}

func TestCheckOfTheZeroClass(t *testing.T) {
	checkCheck(t, api.Class{}, api.ErrVersion)
	checkCheck(t, api.Class{Major: 52}, api.ErrPool)
	checkCheck(t, api.Class{Major: 52, Pool: pool()}, api.ErrPool)
	checkCheck(t, api.Class{Major: 52, Access: 2}, api.ErrAccess)
}

// TestCheckOfMixedFaults has any faults, in any number.
func TestCheckOfMixedFaults(t *testing.T) {
	all := slices.Concat(faults()...)
	n := numbers(5)
	for range 5000 {
		c := sample()
		for range 1 + n.below(3) {
			x := all[n.below(len(all))]
			if len(c.Fields) >= 2 && len(c.Methods) >= 2 && len(c.Pool) == poolSize {
				x.f(&c)
			}
		}
		checkCheck(t, c, meantCheck(c))
	}
}
