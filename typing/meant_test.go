package typing_test

import (
	"slices"
	"strings"

	"tabard/api"
	"tabard/hier"
	"tabard/linker"
	"tabard/sample"
	"tabard/vtype"
)

// What the document says, kept the plainest way: each operation's rule is a text, and a text is held against a shape word by word.

func top() api.Type         { return api.Type{Kind: api.TyTop} }
func null() api.Type        { return api.Type{Kind: api.TyNull} }
func ref(s string) api.Type { return api.Type{Kind: api.TyRef, Name: s} }

// rules are the document's of what hangs on the kind alone. <T is what fits T; a single, a reference, an array of ints, of longs, of references or of anything has a name behind a point; what is put is a type or such a name, and element of one is what stands in it. A word with an @ is asked of the local, or put from it; one with a ! becomes the local.
func rules() map[int]string {
	return map[int]string{
		api.KNop: " -> ", api.KNull: " -> null", api.KInt: " -> int", api.KLong: " -> long",
		api.KILoad: " -> @int", api.KLLoad: " -> @long", api.KALoad: " -> @reference", api.KIStore: "<int -> !int", api.KLStore: "<long -> !long", api.KAStore: "reference.a -> !a", api.KIInc: " -> @int!",
		api.KPop: "single.a -> ", api.KDup: "single.a -> a a", api.KDupX1: "single.a single.b -> b a b", api.KSwap: "single.a single.b -> b a",
		api.KI2: "<int <int -> int", api.KL2: "<long <long -> long", api.KINeg: "<int -> int", api.KNarrow: "<int -> int", api.KLNeg: "<long -> long", api.KIShift: "<int <int -> int", api.KLShift: "<long <int -> long", api.KI2L: "<int -> long", api.KL2I: "<long -> int", api.KLCmp: "<long <long -> int",
		api.KIf: "<int -> ", api.KIfI: "<int <int -> ", api.KIfA: "reference.a reference.b -> ", api.KIfNull: "reference.a -> ", api.KGoto: " -> ",
		api.KLength: "array.a -> int", api.KIALoad: "ints.a <int -> int", api.KLALoad: "longs.a <int -> long", api.KAALoad: "references.a <int -> element.a", api.KIAStore: "ints.a <int <int -> ", api.KLAStore: "longs.a <int <long -> ", api.KAAStore: "references.a <int reference.b -> ",
		api.KThrow: "<" + sample.Throwable + " -> ", api.KIs: "reference.a -> int", api.KOut: "<int -> ", api.KOutL: "<long -> ", api.KIn: " -> int",
	}
}

// ruleOf is the rule of an operation, also of one that names something.
func ruleOf(p api.Program, f api.Func, x api.Op) string {
	switch x.Kind {
	case api.KReturn:
		if x.A == 0 {
			return " -> "
		}
		return "<" + vtype.Text(f.Ret) + " -> "
	case api.KGetStat:
		return " -> " + vtype.Text(p.Statics[x.A])
	case api.KPutStat:
		return "<" + vtype.Text(p.Statics[x.A]) + " -> "
	case api.KGetField:
		return "<" + p.Classes[x.N].Name + " -> " + vtype.Text(p.Classes[x.N].Fields[x.A])
	case api.KPutField:
		return "<" + p.Classes[x.N].Name + " <" + vtype.Text(p.Classes[x.N].Fields[x.A]) + " -> "
	case api.KCallStat, api.KCallSpec, api.KCallVirt:
		var w []string
		for _, t := range p.Funcs[x.A].Args {
			w = append(w, "<"+vtype.Text(t))
		}
		w = append(w, "->")
		if t := p.Funcs[x.A].Ret; t != top() {
			w = append(w, vtype.Text(t))
		}
		return " " + strings.Join(w, " ") + " "
	case api.KNew:
		return " -> " + p.Classes[x.A].Name
	case api.KNewArr:
		return "<int -> " + p.Types[x.A].Name
	case api.KCast:
		return "reference.a -> " + p.Types[x.A].Name
	}
	return rules()[x.Kind]
}

// meant is what the document says of a program.
type meant struct {
	p api.Program
	h *hier.Hier
}

func meaning(p api.Program) *meant {
	var l []api.Line
	for _, c := range p.Classes[api.BuiltIn:] {
		l = append(l, api.Line{Name: c.Name, Super: p.Classes[c.Super].Name})
	}
	h, _ := hier.New(l...)
	return &meant{p, h}
}

// such tells whether a type is what a word asks for.
func (m *meant) such(t api.Type, word string) bool {
	if s, is := strings.CutPrefix(word, "<"); is {
		return vtype.Fits(m.h, t, sample.Type(s))
	}
	sort, _, _ := strings.Cut(word, ".")
	if t == null() && sort != "single" {
		return true
	}
	e, _ := vtype.Element(t)
	switch sort {
	case "single":
		return t.Kind != api.TyLong
	case "reference":
		return t.Kind == api.TyRef
	case "array":
		return t.Kind == api.TyRef && t.Name[0] == '['
	case "ints":
		return t == ref("[I")
	case "longs":
		return t == ref("[J")
	case "references":
		return e.Kind == api.TyRef
	}
	panic(word)
}

// step is P12.2 and P12.3.
func (m *meant) step(f, i int, s api.Shape) ([]api.Flow, api.Errno) {
	if f < 0 || f >= len(m.p.Funcs) || i < 0 || i >= len(m.p.Funcs[f].Ops) || len(s.Locals) != m.p.Funcs[f].Locals {
		return nil, api.ErrArg
	}
	for _, t := range append(slices.Clone(s.Locals), s.Stack...) {
		if !vtype.Valid(m.h, t) {
			return nil, api.ErrArg
		}
	}
	fn := m.p.Funcs[f]
	x := fn.Ops[i]
	if x.Kind == api.KReturn && fn.Ret.Kind != map[int]int{0: api.TyTop, api.VInt: api.TyInt, api.VLong: api.TyLong, api.VRef: api.TyRef}[x.A] {
		return nil, api.ErrReturn
	}
	after, e := m.behind(ruleOf(m.p, fn, x), x.A, s)
	if e != api.OK {
		return nil, e
	}
	return m.flows(fn, i, s, after)
}

// behind is what comes of a shape by a rule.
func (m *meant) behind(rule string, local int, s api.Shape) (api.Shape, api.Errno) {
	asks, puts, _ := strings.Cut(rule, "->")
	after, names := vtype.Clone(s), map[string]api.Type{}
	words := strings.Fields(asks)
	slices.Reverse(words)
	for _, w := range words {
		n := len(after.Stack) - 1
		if n < 0 {
			return after, api.ErrUnder
		}
		if !m.such(after.Stack[n], w) {
			return after, api.ErrType
		}
		_, name, _ := strings.Cut(w, ".")
		names[name] = after.Stack[n]
		after.Stack = after.Stack[:n]
	}
	for _, w := range strings.Fields(puts) {
		name, is := strings.CutPrefix(w, "!")
		t, named := names[name]
		if !named {
			t = sample.Type(name)
		}
		if is {
			if local > 0 && after.Locals[local-1].Kind == api.TyLong {
				after.Locals[local-1] = top()
			}
			after.Locals[local] = t
			if t.Kind == api.TyLong {
				after.Locals[local+1] = top()
			}
			continue
		}
		if sort, is := strings.CutPrefix(w, "@"); is {
			sort, asked := strings.CutSuffix(sort, "!")
			t = s.Locals[local]
			if sort == "reference" && !m.such(t, sort) || sort != "reference" && t != sample.Type(sort) {
				return after, api.ErrVar
			}
			if asked {
				continue
			}
		}
		if w == "element.a" {
			t, _ = vtype.Element(names["a"])
			if names["a"] == null() {
				t = null()
			}
		}
		after.Stack = append(after.Stack, t)
	}
	return after, api.OK
}

// flows is where a run may go on behind a place, with what came of it.
func (m *meant) flows(fn api.Func, i int, s, after api.Shape) ([]api.Flow, api.Errno) {
	kind := fn.Ops[i].Kind
	if vtype.Slots(after.Stack...) > fn.Stack {
		return nil, api.ErrOver
	}
	if i == len(fn.Ops)-1 && kind != api.KGoto && kind != api.KReturn && kind != api.KThrow {
		return nil, api.ErrFall
	}
	var l []api.Flow
	for _, to := range linker.Next(fn, i) {
		l = append(l, api.Flow{To: to, Shape: after})
	}
	for c := range linker.Covers(fn, i) {
		if fn.Stack == 0 {
			return nil, api.ErrOver
		}
		to, _ := linker.Op(fn, c.At)
		l = append(l, api.Flow{To: to, Shape: api.Shape{Locals: s.Locals, Stack: []api.Type{ref(m.p.Classes[c.Class].Name)}}})
	}
	return l, api.OK
}

// takes is P12.4.
func (m *meant) takes(f, i int) ([]api.Type, bool) {
	fn := m.p.Funcs[f]
	asks, _, _ := strings.Cut(ruleOf(m.p, fn, fn.Ops[i]), "->")
	var l []api.Type
	for _, w := range strings.Fields(asks) {
		s, is := strings.CutPrefix(w, "<")
		if !is {
			return nil, false
		}
		l = append(l, sample.Type(s))
	}
	slices.Reverse(l)
	return l, true
}

// first is P12.1.
func (m *meant) first(f int) api.Shape {
	var s api.Shape
	for _, t := range m.p.Funcs[f].Args {
		s.Locals = append(s.Locals, t)
		if t.Kind == api.TyLong {
			s.Locals = append(s.Locals, top())
		}
	}
	s.Locals = append(s.Locals, slices.Repeat([]api.Type{top()}, m.p.Funcs[f].Locals-len(s.Locals))...)
	return s
}

// wrong is P12.5.
func (m *meant) wrong(f int, table []api.Known) (int, api.Errno) {
	if f < 0 || f >= len(m.p.Funcs) || len(table) != len(m.p.Funcs[f].Ops) {
		return 0, api.ErrArg
	}
	if !table[0].Is || !vtype.FitsAll(m.h, m.first(f), table[0].Shape) {
		return 0, api.ErrType
	}
	for i, k := range table {
		if !k.Is {
			continue
		}
		l, e := m.step(f, i, k.Shape)
		if e != api.OK {
			return i, e
		}
		for _, x := range l {
			if !table[x.To].Is || !vtype.FitsAll(m.h, x.Shape, table[x.To].Shape) {
				return i, api.ErrType
			}
		}
	}
	return 0, api.OK
}

func sameFlows(a, b []api.Flow) bool {
	return slices.EqualFunc(a, b, func(x, y api.Flow) bool { return x.To == y.To && vtype.Same(x.Shape, y.Shape) })
}
