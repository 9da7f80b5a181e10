package layout_test

import (
	"slices"
	"strings"
	"testing"

	"tabard/api"
	"tabard/classfile"
	"tabard/hier"
	"tabard/layout"
)

// TestConstructors are found in the class alone, and nothing else is.
func TestConstructors(t *testing.T) {
	l := held(t, of("A", "", "f ()V, <init> ()V"), of("B:A", "", "<init> (I)V"), of("C:B", "", "<init> ()V"))
	for _, x := range []struct {
		class      int
		name, desc string
		number     int
	}{
		{8, "<init>", "()V", 1}, {9, "<init>", "()V", -1}, {9, "<init>", "(I)V", 2}, {10, "<init>", "()V", 3}, {10, "<init>", "(I)V", -1}, {0, "<init>", "()V", -1}, {10, "f", "()V", 0}, {10, "<init", "()V", -1}, {10, "", "()V", -1},
	} {
		s, is := l.Method(x.class, x.name, x.desc)
		if is != (x.number >= 0) || is && s.Number != x.number || !is && s != (api.Spot{}) {
			t.Error(x, s, is)
		}
	}
}

// TestHidden has fields that hide others: both stand in the object.
func TestHidden(t *testing.T) {
	l := held(t, of("A", "x I, static y I", ""), of("B:A", "z J, x I", ""), of("C:B", "static x I, y I", ""), of("D:C", "", ""))
	long, whole := api.Type{Kind: api.TyLong}, api.Type{Kind: api.TyInt}
	for _, x := range []struct {
		class int
		name  string
		p     api.Place
	}{
		{8, "x", api.Place{Class: 8, Type: whole}}, {9, "x", api.Place{Class: 9, N: 2, Type: whole}}, {10, "x", api.Place{Class: 10, Static: true, N: 1, Type: whole}}, {11, "x", api.Place{Class: 10, Static: true, N: 1, Type: whole}},
		{9, "y", api.Place{Class: 8, Static: true, Type: whole}}, {11, "y", api.Place{Class: 10, N: 3, Type: whole}},
	} {
		if p, is := l.Field(x.class, x.name, "I"); p != x.p || !is {
			t.Error(x, p, is)
		}
	}
	if k := l.Klasses()[11]; !slices.Equal(k.Fields, []api.Type{whole, long, whole, whole}) {
		t.Error(k)
	}
}

// TestFieldsTypes has each sort of descriptor.
func TestFieldsTypes(t *testing.T) {
	l := held(t, of("A", "a I, b J, c LA;, d [I, e [[J, f [La/b/C;", ""))
	want := []api.Type{{Kind: api.TyInt}, {Kind: api.TyLong}, {Kind: api.TyRef, Name: "A"}, {Kind: api.TyRef, Name: "[I"}, {Kind: api.TyRef, Name: "[[J"}, {Kind: api.TyRef, Name: "[La/b/C;"}}
	if k := l.Klasses()[8]; !slices.Equal(k.Fields, want) {
		t.Error(k)
	}
	if p, is := l.Field(8, "c", "LA;"); p.Type != want[2] || p.N != 2 || !is {
		t.Error(p, is)
	}
	for _, desc := range []string{"A", "LA", "LA; ", "[LA;", "", "I", strings.Repeat("[", 1<<20)} {
		if p, is := l.Field(8, "c", desc); p != (api.Place{}) || is {
			t.Error(desc, p, is)
		}
	}
}

// TestNobodysElse writes to what was handed in, also behind its end, and to what was answered.
func TestNobodysElse(t *testing.T) {
	l := []decl{of("B:A", "static s J, y J", "g ()V, h ()V"), of("A", "x I, z [I", "f ()V, g ()V"), of("C:B", "", ""), of("D:A", "static s I", "")}
	m := append(meant(builtIn()), l...)
	h := hierarchy(t, l)
	in := append(make([]api.Class, 0, 8), files(l)...)
	for i := range in {
		in[i].Fields = append(make([]api.Member, 0, 16), in[i].Fields...)
		in[i].Methods = append(make([]api.Member, 0, 16), in[i].Methods...)
	}
	made, e := layout.New(h, in...)
	if e != api.OK || !slices.EqualFunc(in, files(l), classfile.Same) {
		t.Fatal(e)
	}
	for _, c := range in {
		for _, x := range append(c.Fields[len(c.Fields):16], c.Methods[len(c.Methods):16]...) {
			if x.Name != 0 || x.Access != 0 {
				t.Error("written behind the end", x)
			}
		}
		clear(c.Pool)
		clear(c.Fields)
		clear(c.Methods)
	}
	clear(in[:8])
	*h = *hierarchy(t, []decl{of("X", "", "")})
	m.hold(t, made)
	*h = hier.Hier{}
	m.hold(t, made)
	spoil(made)
	m.hold(t, made)
	m.follows(t, made)
	// Another layout is not this one.
	held(t, of("Z", "x I", "f ()V"))
	m.hold(t, made)
}

// spoil writes to all that a layout answers.
func spoil(l *layout.Layout) {
	for _, k := range l.Klasses() {
		_, _ = append(k.Fields, api.Type{Kind: 9}), append(k.Table, 99)
		for i := range k.Fields {
			k.Fields[i] = api.Type{Kind: 7, Name: "x"}
		}
		for i := range k.Table {
			k.Table[i] = 77
		}
	}
	clear(l.Klasses())
	_ = append(l.Statics(), api.Type{Kind: 9})
	clear(l.Statics())
}

// TestListsShareNothing writes to one list of an answer, and looks at the others.
func TestListsShareNothing(t *testing.T) {
	l := held(t, of("A", "x I", "f ()V"), of("B:A", "y J", "g ()V"), of("C:A", "", ""), of("D:C", "z J", "h ()V"))
	for n := range l.Klasses() {
		all, fresh := l.Klasses(), l.Klasses()
		for _, list := range [][]int{append(all[n].Table, 5, 6, 7), all[n].Table} {
			for i := range list {
				list[i] = -5
			}
		}
		for _, list := range [][]api.Type{append(all[n].Fields, api.Type{}, api.Type{}), all[n].Fields} {
			for i := range list {
				list[i] = api.Type{Kind: -5}
			}
		}
		for k := range all {
			if k != n && (!slices.Equal(all[k].Table, fresh[k].Table) || !slices.Equal(all[k].Fields, fresh[k].Fields)) {
				t.Error(n, k, all[k])
			}
		}
	}
}

// TestNotMade has layouts that no call made.
func TestNotMade(t *testing.T) {
	for _, l := range []*layout.Layout{nil, {}, new(layout.Layout)} {
		if l.Funcs() != 0 || len(l.Klasses()) != 0 || len(l.Statics()) != 0 {
			t.Error(l.Funcs(), l.Klasses(), l.Statics())
		}
		for _, n := range append(far(), -2, -1, 0, 1, 7, 8, 9) {
			p, isField := l.Field(n, "x", "I")
			s, isMethod := l.Method(n, "<init>", "()V")
			f, isFunc := l.Func(n)
			k, isSlot := l.Select(n, n)
			if p != (api.Place{}) || s != (api.Spot{}) || f != (api.Spot{}) || k != 0 || isField || isMethod || isFunc || isSlot || l.Slot(n) != -1 {
				t.Error(n, p, s, f, k, l.Slot(n))
			}
		}
	}
}

// TestReadme is what README.md shows.
func TestReadme(t *testing.T) {
	c, _ := classfile.New("A", "java/lang/Object")
	c, _ = classfile.WithField(c, api.AccPublic, "x", "J")
	c, _ = classfile.WithMethod(c, "f", "()V", api.Member{Locals: 1, Code: []byte{177}})
	h, e := hier.New(api.Line{Name: "A", Super: "java/lang/Object"})
	if e != api.OK {
		t.Fatal(e)
	}
	l, e := layout.New(h, c)
	if e != api.OK {
		t.Fatal(e)
	}
	p, isField := l.Field(8, "x", "J")
	s, isMethod := l.Method(8, "f", "()V")
	n, isSlot := l.Select(8, l.Slot(s.Number))
	if !isField || !isMethod || !isSlot || p != (api.Place{Class: 8, Type: api.Type{Kind: api.TyLong}}) || s != (api.Spot{Class: 8}) || n != 0 || l.Funcs() != 1 {
		t.Error(p, s, n)
	}
	if k := l.Klasses()[8]; k.Name != "A" || len(k.Fields) != 1 || !slices.Equal(k.Table, []int{0}) {
		t.Error(k)
	}
}
