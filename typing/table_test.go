package typing_test

import (
	"slices"
	"testing"

	"tabard/api"
	"tabard/linker"
	"tabard/sample"
	"tabard/typing"
	"tabard/vtype"
)

// tables are methods in a class R, and the least table of each, found by the plainest walk.
func tables(t *testing.T) (*meant, map[int][]api.Known) {
	t.Helper()
	m := meaning(sample.Link(append(sample.Family(), sample.Class{Name: "R:A", Methods: sample.Right()})...))
	all := map[int][]api.Known{}
	for _, x := range sample.Right() {
		_, name, desc := sample.Member(x.What)
		f := sample.Named(m.p, "R."+name+desc)
		all[f] = m.least(t, f)
	}
	return m, all
}

func (m *meant) least(t *testing.T, f int) []api.Known {
	t.Helper()
	table := make([]api.Known, len(m.p.Funcs[f].Ops))
	table[0] = api.Known{Is: true, Shape: m.first(f)}
	for changed := true; changed; {
		changed = false
		for i, k := range table {
			if !k.Is {
				continue
			}
			l, e := m.step(f, i, k.Shape)
			if e != api.OK {
				t.Fatal(linker.Name(m.p, f), i, sample.Text(k.Shape), e)
			}
			for _, x := range l {
				s, is := x.Shape, true
				if table[x.To].Is {
					s, is = vtype.JoinAll(m.h, table[x.To].Shape, x.Shape)
				}
				if !is {
					t.Fatal(linker.Name(m.p, f), x.To)
				}
				changed = changed || !table[x.To].Is || !vtype.Same(s, table[x.To].Shape)
				table[x.To] = api.Known{Is: true, Shape: s}
			}
		}
	}
	return table
}

// holdTable holds Wrong and Holds against what is meant, and tells whether the table holds.
func holdTable(t *testing.T, m *meant, f int, table []api.Known) bool {
	t.Helper()
	kept := cloneTable(table)
	at, e := typing.Wrong(m.p, f, table)
	want, err := m.wrong(f, table)
	if at != want || e != err || typing.Holds(m.p, f, table) != (err == api.OK) {
		t.Error(linker.Name(m.p, f), table, at, e, "not", want, err)
	}
	for i := range table {
		if table[i].Is != kept[i].Is || !vtype.Same(table[i].Shape, kept[i].Shape) {
			t.Error("written to", i)
		}
	}
	return err == api.OK
}

func cloneTable(l []api.Known) []api.Known {
	l = slices.Clone(l)
	for i := range l {
		l[i].Shape = vtype.Clone(l[i].Shape)
	}
	return l
}

// TestTables has tables that hold, and the same ones with one thing changed: each type to each other, more and fewer of them, each entry known or not.
func TestTables(t *testing.T) {
	m, all := tables(t)
	odd := append(sorts(), ref("X"), ref("[X"), api.Type{Kind: 5}, api.Type{Kind: api.TyInt, Name: "x"})
	held, not := 0, 0
	try := func(f int, table []api.Known) {
		if holdTable(t, m, f, table) {
			held++
		} else {
			not++
		}
	}
	for f := range m.p.Funcs {
		table, is := all[f]
		if !is {
			continue
		}
		if !holdTable(t, m, f, table) {
			t.Error("does not hold", linker.Name(m.p, f))
		}
		for i := range table {
			for _, change := range changes(odd) {
				l := cloneTable(table)
				change(&l[i])
				try(f, l)
			}
		}
	}
	if held < 100 || not < 1000 {
		t.Error(held, not)
	}
}

// changes are ways to change an entry.
func changes(l []api.Type) []func(k *api.Known) {
	all := []func(k *api.Known){
		func(k *api.Known) { k.Is = !k.Is },
		func(k *api.Known) { k.Shape = api.Shape{} },
		func(k *api.Known) { k.Shape.Locals = append(k.Shape.Locals, top()) },
		func(k *api.Known) { k.Shape.Stack = append(k.Shape.Stack, top()) },
		func(k *api.Known) { k.Shape.Locals = k.Shape.Locals[:max(len(k.Shape.Locals)-1, 0)] },
		func(k *api.Known) { k.Shape.Stack = k.Shape.Stack[:max(len(k.Shape.Stack)-1, 0)] },
	}
	for _, x := range l {
		for n := range 4 {
			all = append(all, func(k *api.Known) { put(k.Shape.Locals, n, x) }, func(k *api.Known) { put(k.Shape.Stack, n, x) })
		}
	}
	return all
}

func put(l []api.Type, n int, t api.Type) {
	if n < len(l) {
		l[n] = t
	}
}

// TestChangedMore has many things changed at once, most of them so that less is known.
func TestChangedMore(t *testing.T) {
	m, all := tables(t)
	r := numbers{7}
	held := 0
	for f := range m.p.Funcs {
		table := all[f]
		for range 200 {
			if len(table) == 0 {
				break
			}
			l := cloneTable(table)
			for range 1 + r.Below(4) {
				k := &l[r.Below(len(l))]
				for i := range k.Shape.Locals {
					if r.Below(3) == 0 {
						k.Shape.Locals[i] = m.wider(&r, k.Shape.Locals[i])
					}
				}
				for i := range k.Shape.Stack {
					if r.Below(9) == 0 {
						k.Shape.Stack[i] = m.wider(&r, k.Shape.Stack[i])
					}
				}
			}
			if holdTable(t, m, f, l) {
				held++
				m.holdClosed(t, f, l)
			}
		}
	}
	if held < 50 {
		t.Error(held)
	}
}

// wider is a type that one fits.
func (m *meant) wider(r *numbers, t api.Type) api.Type {
	for range 99 {
		if x := r.some(1)[0]; vtype.Fits(m.h, t, x) {
			return x
		}
	}
	return top()
}

// holdClosed is P12.7: from the first entry on, by flows, one comes to what is known alone.
func (m *meant) holdClosed(t *testing.T, f int, table []api.Known) {
	t.Helper()
	waiting := []api.Flow{{To: 0, Shape: typing.First(m.p, f)}}
	for range 400 {
		if len(waiting) == 0 {
			return
		}
		x := waiting[0]
		waiting = waiting[1:]
		if !table[x.To].Is || !vtype.FitsAll(m.h, x.Shape, table[x.To].Shape) {
			t.Error("come to", linker.Name(m.p, f), x)
			return
		}
		l, e := typing.Step(m.p, f, x.To, x.Shape)
		if e != api.OK {
			t.Error(linker.Name(m.p, f), x, e)
		}
		waiting = append(waiting, l...)
	}
}

// TestClosed is P12.7 of the least tables.
func TestClosed(t *testing.T) {
	m, all := tables(t)
	for f, table := range all {
		m.holdClosed(t, f, table)
	}
}

// TestWrongFirst has lengths that are none, the beginning, and two places with faults.
func TestWrongFirst(t *testing.T) {
	m, all := tables(t)
	loop, thrown, alone := sample.Named(m.p, "R.loop()I"), sample.Named(m.p, "R.thrown(LE;)V"), sample.Named(m.p, "R.alone()V")
	wrong := func(f int, l []api.Known, at int, e api.Errno) {
		t.Helper()
		if got, err := typing.Wrong(m.p, f, l); got != at || err != e {
			t.Error(got, err, "not", at, e)
		}
		holdTable(t, m, f, l)
	}
	table := all[loop]
	for _, l := range [][]api.Known{nil, {}, table[:len(table)-1], append(slices.Clone(table), api.Known{}), append(slices.Clone(table), table[0])} {
		wrong(loop, l, 0, api.ErrArg)
	}
	wrong(len(m.p.Funcs), table, 0, api.ErrArg)
	changed := func(f int, change func(l []api.Known)) []api.Known {
		l := cloneTable(all[f])
		change(l)
		return l
	}
	wrong(loop, make([]api.Known, len(table)), 0, api.ErrType)
	wrong(loop, changed(loop, func(l []api.Known) { l[0].Is = false }), 0, api.ErrType)
	wrong(loop, changed(loop, func(l []api.Known) { l[0].Shape.Locals[0] = api.Type{Kind: api.TyInt} }), 0, api.ErrType)
	wrong(loop, changed(loop, func(l []api.Known) { l[0].Shape.Stack = sample.Types("int") }), 0, api.ErrType)
	wrong(thrown, changed(thrown, func(l []api.Known) { l[0].Shape.Locals[0] = ref("F") }), 0, api.ErrType)
	wrong(thrown, changed(thrown, func(l []api.Known) { l[0].Shape.Locals[0] = ref("X") }), 0, api.ErrType)
	wrong(thrown, changed(thrown, func(l []api.Known) { l[0].Shape.Locals[0] = ref(sample.Throwable) }), 0, api.ErrType) // its flow to the next one does not fit
	// The first place, whatever its error: of what comes to it, ahead of its own.
	wrong(loop, changed(loop, func(l []api.Known) { l[2].Shape.Locals[0] = ref("A") }), 1, api.ErrType)
	wrong(loop, changed(loop, func(l []api.Known) { l[2].Shape.Locals[0] = top() }), 2, api.ErrVar)
	wrong(loop, changed(loop, func(l []api.Known) { l[2].Shape.Locals[0] = top(); l[3].Shape.Stack = nil; l[5].Shape.Stack = nil }), 2, api.ErrVar)
	wrong(loop, changed(loop, func(l []api.Known) { l[5].Shape.Stack = sample.Types("top"); l[3].Is = false }), 2, api.ErrType)
	wrong(loop, changed(loop, func(l []api.Known) { l[8].Is = false; l[5].Shape.Stack = nil }), 3, api.ErrType)
	wrong(loop, changed(loop, func(l []api.Known) { l[9].Shape.Stack = sample.Types("top") }), 9, api.ErrType)
	wrong(loop, changed(loop, func(l []api.Known) { l[9].Shape.Locals = nil }), 8, api.ErrType)
	wrong(thrown, changed(thrown, func(l []api.Known) { l[3].Is = false }), 0, api.ErrType)
	wrong(thrown, changed(thrown, func(l []api.Known) { l[2].Shape.Stack = sample.Types("F") }), 0, api.ErrType)
	// What is not known is not asked, whatever its shape.
	dead := sample.Named(m.p, "R.dead()V")
	l := cloneTable(all[dead])
	for i := range l {
		if !l[i].Is {
			l[i].Shape = sample.Shape("X X X", "long")
		}
	}
	wrong(dead, l, 0, api.OK)
	// What is known is asked, also where nothing comes to it.
	l[1] = api.Known{Is: true, Shape: m.first(dead)}
	wrong(dead, l, 1, api.ErrUnder)
	wrong(alone, []api.Known{{Is: true}}, 0, api.OK)
	wrong(alone, []api.Known{{Is: true, Shape: api.Shape{Locals: []api.Type{}, Stack: []api.Type{}}}}, 0, api.OK)
	wrong(alone, []api.Known{{}}, 0, api.ErrType)
	wrong(alone, nil, 0, api.ErrArg)
}

// TestArgsOfNoClass has a method that takes what there is not: no table of it holds.
func TestArgsOfNoClass(t *testing.T) {
	m := meaning(sample.Link(sample.Single("static f (LX;)V", 1, 1, "return")...))
	f := sample.Named(m.p, "T.f(LX;)V")
	for _, s := range []string{"X", "top", "null", sample.Object} {
		if at, e := typing.Wrong(m.p, f, []api.Known{{Is: true, Shape: sample.Shape(s, "")}}); at != 0 || e != api.ErrType {
			t.Error(s, at, e)
		}
	}
	// Nor does one hold in which such a thing is put.
	m = meaning(sample.Link(sample.Single("static f ()V", 1, 0, "getstatic S.x LX; | pop | return")...))
	f = sample.Named(m.p, "T.f()V")
	for _, s := range []string{"X", "top", sample.Object} {
		table := []api.Known{{Is: true}, {Is: true, Shape: sample.Shape("", s)}, {Is: true}}
		if at, e := typing.Wrong(m.p, f, table); at != 0 || e != api.ErrType {
			t.Error(s, at, e)
		}
		holdTable(t, m, f, table)
	}
}
