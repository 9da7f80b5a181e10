package typing_test

import (
	"slices"
	"testing"

	"tabard/api"
	"tabard/linker"
	"tabard/sample"
	"tabard/typing"
	"tabard/vtype"
)

// TestLessIsEnough is P12.6: of each operation, shapes that it takes, and such as fit these.
func TestLessIsEnough(t *testing.T) {
	m := meaning(world(t))
	r := numbers{3}
	done, narrower := 0, 0
	for f, fn := range m.p.Funcs {
		if fn.Locals != 4 {
			continue
		}
		for i := range fn.Ops {
			for range 20 {
				s := api.Shape{Locals: r.locals(), Stack: m.taken(&r, f, i)}
				want, e := typing.Step(m.p, f, i, s)
				if e != api.OK || slices.Contains(s.Stack, top()) {
					continue
				}
				for range 3 {
					less := m.less(&r, s)
					got, e := typing.Step(m.p, f, i, less)
					if e != api.OK || len(got) != len(want) {
						t.Error(linker.Name(m.p, f), i, sample.Text(s), sample.Text(less), e)
						continue
					}
					done++
					if !vtype.Same(less, s) {
						narrower++
					}
					for k, x := range want {
						if got[k].To != x.To || m.allValid(x.Shape) && !vtype.FitsAll(m.h, got[k].Shape, x.Shape) {
							t.Error(linker.Name(m.p, f), i, sample.Text(got[k].Shape), "does not fit", sample.Text(x.Shape))
						}
					}
				}
			}
		}
	}
	if done < 1000 || narrower < 500 {
		t.Error(done, narrower)
	}
}

// less is a shape that fits one.
func (m *meant) less(r *numbers, s api.Shape) api.Shape {
	s = vtype.Clone(s)
	for _, l := range [][]api.Type{s.Locals, s.Stack} {
		for i, t := range l {
			for range 9 {
				if x := r.some(1)[0]; vtype.Fits(m.h, x, t) {
					l[i] = x
				}
			}
		}
	}
	return s
}

func (m *meant) allValid(s api.Shape) bool {
	not := func(t api.Type) bool { return !vtype.Valid(m.h, t) }
	return !slices.ContainsFunc(s.Locals, not) && !slices.ContainsFunc(s.Stack, not)
}

// TestTopIsNotEnough is why P12.6 asks for a stack without a top: a long fits it, and is no single.
func TestTopIsNotEnough(t *testing.T) {
	p := sample.Link(sample.Single("static f ()V", 2, 0, "pop | return")...)
	f := sample.Named(p, "T.f()V")
	if _, e := typing.Step(p, f, 0, sample.Shape("", "top")); e != api.OK {
		t.Error(e)
	}
	if _, e := typing.Step(p, f, 0, sample.Shape("", "long")); e != api.ErrType {
		t.Error(e)
	}
}
