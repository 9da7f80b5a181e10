package typing_test

import (
	"math"
	"slices"
	"strings"
	"testing"

	"tabard/api"
	"tabard/linker"
	"tabard/sample"
	"tabard/typing"
	"tabard/vtype"
)

// holdStep holds Step against what is meant, and tells its error.
func holdStep(t *testing.T, m *meant, f, i int, s api.Shape) api.Errno {
	t.Helper()
	kept := vtype.Clone(s)
	got, e := typing.Step(m.p, f, i, s)
	want, err := m.step(f, i, s)
	if e != err || !sameFlows(got, want) {
		t.Error(linker.Name(m.p, f), i, sample.Text(s), got, e, "not", want, err)
	}
	if !vtype.Same(s, kept) {
		t.Error("written to", linker.Name(m.p, f), i)
	}
	return e
}

// numbers tells types, too.
type numbers struct{ sample.Numbers }

// some is a list of types that look as if they were in no order.
func (r *numbers) some(n int) []api.Type {
	var l []api.Type
	for range n {
		l = append(l, sorts()[r.Below(len(sorts()))])
	}
	return l
}

// locals are four, such as operations ask for more often than not.
func (r *numbers) locals() []api.Type {
	if r.Below(2) == 0 {
		return sample.Types([]string{"int int long top", "long top A int", "int null null int", "long long long long", "top long top [I", "int A [LA; long"}[r.Below(6)])
	}
	return r.some(4)
}

// taken is a stack with what an operation takes, if there is such a type, and something below it.
func (m *meant) taken(r *numbers, f, i int) []api.Type {
	fn := m.p.Funcs[f]
	l := r.some(r.Below(3))
	asks, _, _ := strings.Cut(ruleOf(m.p, fn, fn.Ops[i]), "->")
	for _, w := range strings.Fields(asks) {
		var may []api.Type
		for _, t := range sorts() {
			if m.such(t, w) {
				may = append(may, t)
			}
		}
		if len(may) > 0 {
			l = append(l, may[r.Below(len(may))])
		}
	}
	return l
}

// TestEach has each operation, with all stacks of at most two types, with what it takes, with one type of that changed, and with others.
func TestEach(t *testing.T) {
	m := meaning(world(t))
	r := numbers{1}
	f := sample.Named(m.p, "W0.every12()V")
	for i, x := range m.p.Funcs[f].Ops {
		stacks := [][]api.Type{nil}
		for _, a := range sorts() {
			stacks = append(stacks, []api.Type{a})
			for _, b := range sorts() {
				stacks = append(stacks, []api.Type{a, b})
			}
		}
		for n := range 60 {
			l := m.taken(&r, f, i)
			stacks = append(stacks, l)
			if k := r.Below(4); n%2 == 0 && k < len(l) {
				l = slices.Clone(l)
				l[len(l)-1-k] = r.some(1)[0]
				stacks = append(stacks, l, l[:k])
			}
			stacks = append(stacks, r.some(3+r.Below(9)))
		}
		seen := map[api.Errno]int{}
		for _, stack := range stacks {
			seen[holdStep(t, m, f, i, api.Shape{Locals: r.locals(), Stack: stack})]++
		}
		m.holdSeen(t, f, x, seen)
	}
}

// holdSeen asks for an operation to have been both done and refused, in each way that it can be.
func (m *meant) holdSeen(t *testing.T, f int, x api.Op, seen map[api.Errno]int) {
	t.Helper()
	rule := ruleOf(m.p, m.p.Funcs[f], x)
	takes, never := rule[0] != ' ', x.Kind == api.KReturn && x.A != 0
	for _, w := range strings.Fields(rule) {
		s, is := strings.CutPrefix(w, "<")
		never = never || is && !vtype.Valid(m.h, sample.Type(s))
	}
	if seen[api.OK] == 0 != never || seen[api.ErrReturn] == 0 != (x.Kind != api.KReturn || x.A == 0) {
		t.Error(x, seen)
	}
	if takes && x.Kind != api.KReturn && (seen[api.ErrUnder] == 0 || seen[api.ErrType] == 0) || strings.Contains(rule, "@") && seen[api.ErrVar] == 0 {
		t.Error(x, seen)
	}
}

// TestStacks has methods with all sorts of stacks and of what they return.
func TestStacks(t *testing.T) {
	m := meaning(world(t))
	r := numbers{2}
	seen := map[api.Errno]int{}
	for f, fn := range m.p.Funcs {
		for i := range fn.Ops {
			for n := range 24 {
				s := api.Shape{Locals: r.locals(), Stack: m.taken(&r, f, i)}
				if fn.Locals != 4 {
					s.Locals = m.first(f).Locals
				}
				if n%6 == 0 {
					s.Stack = r.some(r.Below(8))
				}
				seen[holdStep(t, m, f, i, s)]++
			}
		}
	}
	for _, e := range []api.Errno{api.OK, api.ErrArg, api.ErrUnder, api.ErrType, api.ErrVar, api.ErrOver, api.ErrReturn, api.ErrFall} {
		if seen[e] < 40 {
			t.Error(e, seen[e])
		}
	}
}

// TestNone has methods, places and shapes that may not be.
func TestNone(t *testing.T) {
	m := meaning(world(t))
	f := sample.Named(m.p, "W0.every12()V")
	far := []int{math.MinInt, -1 << 32, math.MinInt32, -2, -1, 1 << 16, math.MaxInt32, 1 << 32, math.MaxInt}
	right := sample.Shape("int int int int", "")
	for _, n := range append(far, len(m.p.Funcs), len(m.p.Funcs)+1) {
		holdStep(t, m, n, 0, right)
		holdNothing(t, m.p, n, 0)
		if s := typing.First(m.p, n); s.Locals != nil || s.Stack != nil {
			t.Error("First", n, s)
		}
		if at, e := typing.Wrong(m.p, n, nil); at != 0 || e != api.ErrArg || typing.Holds(m.p, n, nil) {
			t.Error("Wrong", n, at, e)
		}
	}
	for _, n := range append(far, len(m.p.Funcs[f].Ops), len(m.p.Funcs[f].Ops)+1) {
		holdStep(t, m, f, n, right)
		holdNothing(t, m.p, f, n)
	}
	holdNothing(t, api.Program{}, 0, 0)
	for _, x := range []struct{ locals, stack string }{
		{"", ""}, {"int", ""}, {"int int int", ""}, {"int int int int int", ""}, {"int int int X", ""}, {"X int int int", ""}, {"int int int int", "X"}, {"int int int int", "[LX; int"}, {"int int int int", "[[LX;"}, {"int [ int int", ""}, {"int int [V int", ""}, {"int int int int", sample.Dims(17) + "I"}, {"int int int int", "main"}, {"int int int int", "LA;"},
	} {
		for i := range m.p.Funcs[f].Ops {
			if e := holdStep(t, m, f, i, sample.Shape(x.locals, x.stack)); e != api.ErrArg {
				t.Error(x, i, e)
			}
		}
	}
	for _, x := range []api.Type{{Kind: 5}, {Kind: -1}, {Kind: math.MinInt}, {Kind: api.TyInt, Name: "I"}, {Kind: api.TyTop, Name: "A"}, {Kind: api.TyNull, Name: " "}, {Kind: api.TyLong, Name: "J"}, {Kind: api.TyRef}, {Kind: 6, Name: "A"}, {Kind: 1<<32 + api.TyInt}} {
		for i := range m.p.Funcs[f].Ops {
			for n := range 4 {
				s := vtype.Clone(right)
				s.Locals[n] = x
				holdStep(t, m, f, i, s)
			}
			if e := holdStep(t, m, f, i, api.Shape{Locals: right.Locals, Stack: []api.Type{x}}); e != api.ErrArg {
				t.Error(x, i, e)
			}
		}
	}
	// Of a program with nothing there is nothing to ask about.
	if l, e := typing.Step(api.Program{}, 0, 0, api.Shape{}); l != nil || e != api.ErrArg {
		t.Error(l, e)
	}
	if l, e := typing.Step(api.Program{Statics: right.Locals}, 0, 0, right); l != nil || e != api.ErrArg {
		t.Error(l, e)
	}
}

// holdNothing has Step and Takes of what there is not.
func holdNothing(t *testing.T, p api.Program, f, i int) {
	t.Helper()
	if l, e := typing.Step(p, f, i, sample.Shape("int int int int", "")); l != nil || e != api.ErrArg {
		t.Error("Step", f, i, l, e)
	}
	if l, is := typing.Takes(p, f, i); l != nil || is {
		t.Error("Takes", f, i, l, is)
	}
}
