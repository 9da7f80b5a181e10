package typing

import (
	"cmp"
	"slices"

	"tabard/api"
	"tabard/hier"
	"tabard/linker"
	"tabard/vtype"
)

// method is one whose operations are asked about. What can't go on panics with its error.
type method struct {
	program api.Program
	code    api.Func
	// These are nil until they are asked for.
	classes *hier.Hier
	places  func(address int) (int, bool)
}

// find is the method of a number.
func find(p api.Program, f int) (*method, bool) {
	if !has(p.Funcs, f) {
		return nil, false
	}
	return &method{program: p, code: p.Funcs[f]}, true
}

// hierarchy is that of the program's classes.
func (m *method) hierarchy() *hier.Hier {
	if m.classes == nil {
		m.classes = Hier(m.program)
	}
	return m.classes
}

// over is the hierarchy, if one of the types is a reference. The others are the same in any hierarchy, and to make one takes longer than all that is asked of it.
func (m *method) over(l ...api.Type) *hier.Hier {
	if slices.ContainsFunc(l, isRef) {
		return m.hierarchy()
	}
	return nil
}

// isClass tells whether a type is a class's. Most types that are asked about are, and to look through the classes takes less time than to make the hierarchy.
func (m *method) isClass(t api.Type) bool {
	return isRef(t) && slices.ContainsFunc(m.program.Classes, func(c api.Klass) bool { return c.Name == t.Name })
}

func (m *method) valid(t api.Type) bool { return m.isClass(t) || vtype.Valid(m.over(t), t) }

func (m *method) fits(a, b api.Type) bool {
	return a == b && m.valid(a) || vtype.Fits(m.over(a, b), a, b)
}

// class is the type of a class.
func (m *method) class(n int) api.Type { return ref(at(m.program.Classes, n).Name) }

func (m *method) first() api.Shape {
	var s api.Shape
	for _, t := range m.code.Args {
		s.Locals = append(s.Locals, t)
		if t.Kind == api.TyLong {
			s.Locals = append(s.Locals, top())
		}
	}
	for len(s.Locals) < m.code.Locals {
		s.Locals = append(s.Locals, top())
	}
	return s
}

// step is Step of a place that there is.
func (m *method) step(i int, s api.Shape) []api.Flow {
	m.mayBe(s)
	x := m.code.Ops[i]
	after := m.after(x, s)
	m.hasRoom(after.Stack)
	if !stops(x.Kind) && i == len(m.code.Ops)-1 {
		panic(api.ErrFall)
	}
	var flows []api.Flow
	for _, to := range linker.Next(m.code, i) {
		flows = append(flows, api.Flow{To: to, Shape: vtype.Clone(after)})
	}
	for c := range linker.Covers(m.code, i) {
		caught := []api.Type{m.class(c.Class)}
		m.hasRoom(caught)
		if to, is := m.place(c.At); is {
			flows = append(flows, api.Flow{To: to, Shape: api.Shape{Locals: slices.Clone(s.Locals), Stack: caught}})
		}
	}
	return flows
}

// mayBe asks for a shape that the method may have anywhere.
func (m *method) mayBe(s api.Shape) {
	if len(s.Locals) != m.code.Locals {
		panic(api.ErrArg)
	}
	for _, l := range [][]api.Type{s.Locals, s.Stack} {
		for _, t := range l {
			if !m.valid(t) {
				panic(api.ErrArg)
			}
		}
	}
}

// hasRoom asks for a stack that is not longer than the method's may be.
func (m *method) hasRoom(stack []api.Type) {
	if vtype.Slots(stack...) > m.code.Stack {
		panic(api.ErrOver)
	}
}

// after is what an operation makes of a shape.
func (m *method) after(x api.Op, s api.Shape) api.Shape {
	e, is := m.effect(x)
	if !is {
		panic(api.ErrArg)
	}
	if x.Kind == api.KReturn && !m.mayReturn(x.A) {
		panic(api.ErrReturn)
	}
	f := frame(vtype.Clone(s))
	e.of(&f)
	return api.Shape(f)
}

// mayReturn tells whether the method may return a value of a kind; 0: none.
func (m *method) mayReturn(kind int) bool {
	ret := m.code.Ret.Kind
	switch kind {
	case 0:
		return ret == api.TyTop
	case api.VInt:
		return ret == api.TyInt
	case api.VLong:
		return ret == api.TyLong
	case api.VRef:
		return ret == api.TyRef
	}
	return true
}

// stops tells whether what stands behind an operation of a kind never comes next.
func stops(kind int) bool {
	return kind == api.KGoto || kind == api.KReturn || kind == api.KThrow
}

// place is where the operation with an address stands.
func (m *method) place(address int) (int, bool) {
	if m.places == nil {
		m.places = places(m.code)
	}
	return m.places(address)
}

// places is linker.Op of a method. Where addresses rise, as Link's do, it does not go through all operations for each address.
func places(f api.Func) func(address int) (int, bool) {
	rise := func(a, b api.Op) int { return cmp.Compare(a.At, b.At) }
	if !slices.IsSortedFunc(f.Ops, rise) {
		return func(address int) (int, bool) { return linker.Op(f, address) }
	}
	return func(address int) (int, bool) { return slices.BinarySearchFunc(f.Ops, api.Op{At: address}, rise) }
}

// begins asks of a table what the method's beginning asks.
func (m *method) begins(table []api.Known) {
	m.knows(table, api.Flow{To: 0, Shape: m.first()})
}

// goesOn asks of a table what the operation at a place asks, if it is come to.
func (m *method) goesOn(place int, table []api.Known) {
	if !table[place].Is {
		return
	}
	for _, x := range m.step(place, table[place].Shape) {
		m.knows(table, x)
	}
}

// knows asks for a flow to go to a place that is known to be come to so.
func (m *method) knows(table []api.Known, x api.Flow) {
	there := at(table, x.To)
	if !there.Is || !vtype.FitsAll(m.hierarchy(), x.Shape, there.Shape) {
		panic(api.ErrType)
	}
}
