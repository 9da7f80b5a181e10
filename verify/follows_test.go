package verify_test

import (
	"slices"
	"testing"

	"tabard/api"
	"tabard/linker"
	"tabard/sample"
	"tabard/typing"
	"tabard/verify"
	"tabard/vtype"
)

// TestMadeUp holds methods that were made up, and programs of them, against what is meant: tables and errors of most sorts.
func TestMadeUp(t *testing.T) {
	r := numbers{1}
	got := map[api.Errno]int{}
	for range 8 {
		m := meaning(r.program(150))
		for f := range m.p.Funcs {
			got[m.hold(t, f)]++
		}
		if f := verify.Program(m.p); f != m.program() {
			t.Error(f)
		}
	}
	for s, n := range map[string]int{"OK": 300, "ErrJoin": 50, "ErrVar": 50, "ErrType": 50, "ErrUnder": 5, "ErrOver": 20, "ErrArg": 1} {
		if got[errno(s)] < n {
			t.Error(s, got[errno(s)])
		}
	}
}

// accepted calls a function with each method of some programs that is accepted, and its table.
func accepted(seed int, do func(m *meant, r *numbers, f int, l []api.Known)) {
	r := numbers{sample.Numbers(seed)}
	for i := range 5 {
		p := right()
		if i > 0 {
			p = r.program(120)
		}
		m := meaning(p)
		for f := range p.Funcs {
			if l, _, e := verify.Method(p, f); e == api.OK {
				do(m, &r, f, l)
			}
		}
	}
}

// TestItHolds is P13.3, and P13.6: what is known is what one comes to from the operation 0 by flows.
func TestItHolds(t *testing.T) {
	n := 0
	accepted(2, func(m *meant, _ *numbers, f int, l []api.Known) {
		n++
		if !typing.Holds(m.p, f, l) {
			t.Error(linker.Name(m.p, f), "does not hold")
		}
		come := []int{0}
		for k := 0; k < len(come); k++ {
			flows, e := typing.Step(m.p, f, come[k], l[come[k]].Shape)
			if e != api.OK {
				t.Fatal(linker.Name(m.p, f), come[k], e)
			}
			for _, x := range flows {
				if !slices.Contains(come, x.To) {
					come = append(come, x.To)
				}
			}
		}
		slices.Sort(come)
		if got := slices.Collect(verify.Reached(l)); !slices.Equal(got, come) {
			t.Error(linker.Name(m.p, f), got, "not", come)
		}
		if !verify.Same(l, l) || !verify.Below(m.p, l, l) || verify.Deepest(l) > m.p.Funcs[f].Stack {
			t.Error(linker.Name(m.p, f))
		}
	})
	if n < 200 {
		t.Error(n)
	}
}

// TestOrder is P13.5: the greatest one next, any one next, and each in turn.
func TestOrder(t *testing.T) {
	turn := 0
	accepted(3, func(m *meant, r *numbers, f int, l []api.Known) {
		for name, next := range map[string]func(l []int) int{
			"greatest": slices.Max[[]int], "any": func(l []int) int { return l[r.Below(len(l))] }, "first": func(l []int) int { return l[0] }, "last": func(l []int) int { return l[len(l)-1] }, "turn": func(l []int) int { turn++; return l[turn%len(l)] },
		} {
			if got, at, e := m.method(f, next); e != api.OK || !same(got, l) {
				t.Error(name, linker.Name(m.p, f), at, e)
			}
		}
	})
}

// TestLeast is P13.4: whatever table holds, the verifier's is below it.
func TestLeast(t *testing.T) {
	held, above := 0, 0
	accepted(4, func(m *meant, r *numbers, f int, l []api.Known) {
		for range 20 {
			w := cloned(l)
			for range 1 + r.Below(3) {
				m.widen(r, f, w)
			}
			if !m.close(f, w) || !typing.Holds(m.p, f, w) {
				continue
			}
			held++
			if !verify.Below(m.p, l, w) {
				t.Error(linker.Name(m.p, f), "is not below", texts(w))
			}
			if !verify.Below(m.p, w, l) {
				above++
			}
		}
	})
	if held < 1000 || above < 500 {
		t.Error(held, above)
	}
}

// widen makes an entry of a table say less: a type one that it fits; or knows one that was not known, as what is known somewhere.
func (m *meant) widen(r *numbers, f int, l []api.Known) {
	k := &l[r.Below(len(l))]
	if !k.Is {
		*k = cloned(l)[r.Below(len(l))]
		return
	}
	list := k.Shape.Locals
	if r.Below(4) == 0 {
		list = k.Shape.Stack
	}
	if len(list) == 0 {
		return
	}
	i := r.Below(len(list))
	wider := sample.Types("top int long A C " + sample.Object + " " + sample.Throwable + " [LA; [LC; [I")
	if x := wider[r.Below(len(wider))]; vtype.Fits(m.h, list[i], x) {
		list[i] = x
	}
}

// close joins to a table what its flows tell, until it is closed; false, if it can't be.
func (m *meant) close(f int, l []api.Known) bool {
	for changed := true; changed; {
		changed = false
		for i, k := range l {
			flows, e := typing.Step(m.p, f, i, k.Shape)
			if k.Is && e != api.OK {
				return false
			}
			for _, x := range flows {
				s, is := x.Shape, true
				if l[x.To].Is {
					s, is = vtype.JoinAll(m.h, l[x.To].Shape, x.Shape)
				}
				if !k.Is || l[x.To].Is && is && vtype.Same(s, l[x.To].Shape) {
					continue
				}
				if !is {
					return false
				}
				l[x.To], changed = api.Known{Is: true, Shape: s}, true
			}
		}
	}
	return true
}
