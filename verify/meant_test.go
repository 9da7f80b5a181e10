package verify_test

import (
	"slices"
	"strings"
	"testing"

	"tabard/api"
	"tabard/hier"
	"tabard/linker"
	"tabard/sample"
	"tabard/typing"
	"tabard/verify"
	"tabard/vtype"
)

// meant is what the document says of a program, kept the plainest way.
type meant struct {
	p api.Program
	h *hier.Hier
}

func meaning(p api.Program) *meant { return &meant{p, typing.Hier(p)} }

// least picks the place that the document says is done next.
func least(l []int) int { return slices.Min(l) }

// method is P13.1, but for who is done next.
func (m *meant) method(f int, next func(l []int) int) ([]api.Known, int, api.Errno) {
	table := make([]api.Known, len(m.p.Funcs[f].Ops))
	table[0] = api.Known{Is: true, Shape: typing.First(m.p, f)}
	wait := []int{0}
	for len(wait) > 0 {
		i := next(wait)
		wait = slices.DeleteFunc(wait, func(n int) bool { return n == i })
		l, e := typing.Step(m.p, f, i, table[i].Shape)
		if e != api.OK {
			return nil, i, e
		}
		for _, x := range l {
			s, is := x.Shape, true
			if table[x.To].Is {
				s, is = vtype.JoinAll(m.h, table[x.To].Shape, x.Shape)
			}
			if !is {
				return nil, x.To, api.ErrJoin
			}
			if table[x.To].Is && vtype.Same(s, table[x.To].Shape) {
				continue
			}
			table[x.To] = api.Known{Is: true, Shape: s}
			if !slices.Contains(wait, x.To) {
				wait = append(wait, x.To)
			}
		}
	}
	return table, 0, api.OK
}

// program is Program, by what Method is meant to say.
func (m *meant) program() api.Fault {
	for f := range m.p.Funcs {
		if _, at, e := m.method(f, least); e != api.OK {
			return api.Fault{Func: f, At: at, Err: e}
		}
	}
	return api.Fault{}
}

// texts is a table as people read it: a - for what is not known.
func texts(l []api.Known) []string {
	var w []string
	for _, k := range l {
		s := "-"
		if k.Is {
			s = sample.Text(k.Shape)
		}
		w = append(w, s)
	}
	return w
}

func same(a, b []api.Known) bool { return slices.Equal(texts(a), texts(b)) }

// hold holds Method against what is meant, and tells its error.
func (m *meant) hold(t *testing.T, f int) api.Errno {
	t.Helper()
	kept := linker.Clone(m.p)
	got, at, e := verify.Method(m.p, f)
	want, n, err := m.method(f, least)
	if at != n || e != err || !same(got, want) || e != api.OK && got != nil {
		t.Error(linker.Name(m.p, f), at, e, "not", n, err, "\n"+strings.Join(texts(got), "\n"), "\n\n"+strings.Join(texts(want), "\n"))
	}
	for _, k := range got {
		if !k.Is && !vtype.Same(k.Shape, api.Shape{}) {
			t.Error("a shape of what is not known", linker.Name(m.p, f))
		}
	}
	if !linker.Same(m.p, kept) {
		t.Error("written to", linker.Name(m.p, f))
	}
	return e
}

// errors are the errors' names that these tests speak of.
func errno(s string) api.Errno {
	return map[string]api.Errno{"OK": api.OK, "ErrArg": api.ErrArg, "ErrUnder": api.ErrUnder, "ErrType": api.ErrType, "ErrVar": api.ErrVar, "ErrOver": api.ErrOver, "ErrReturn": api.ErrReturn, "ErrFall": api.ErrFall, "ErrJoin": api.ErrJoin}[s]
}
