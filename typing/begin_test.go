package typing_test

import (
	"slices"
	"strconv"
	"strings"
	"testing"

	"tabard/api"
	"tabard/hier"
	"tabard/linker"
	"tabard/sample"
	"tabard/typing"
	"tabard/vtype"
)

// holdHier holds Hier against a hierarchy of lines.
func holdHier(t *testing.T, p api.Program, l ...api.Line) {
	t.Helper()
	got := typing.Hier(p)
	want, e := hier.New(l...)
	if e != api.OK || got.Len() != want.Len() {
		t.Fatal(got.Len(), e)
	}
	for n := range want.Len() {
		if got.Name(n) != want.Name(n) || got.Super(n) != want.Super(n) {
			t.Error(n, got.Name(n), got.Super(n))
		}
	}
	if !slices.Equal(slices.Collect(got.Order()), slices.Collect(want.Order())) {
		t.Error("Order")
	}
}

func TestHier(t *testing.T) {
	main := api.Line{Name: "Main", Super: sample.Object}
	holdHier(t, sample.Link(), main)
	holdHier(t, sample.Link(sample.Class{Name: "B:A"}, sample.Class{Name: "A"}, sample.Class{Name: "E:" + sample.Throwable}, sample.Class{Name: "F:java/lang/ClassCastException"}),
		api.Line{Name: "B", Super: "A"}, api.Line{Name: "A", Super: sample.Object}, api.Line{Name: "E", Super: sample.Throwable}, api.Line{Name: "F", Super: "java/lang/ClassCastException"}, main)
	// As many classes as may be, each under the one behind it.
	var l []sample.Class
	var lines []api.Line
	for i := range api.MaxClasses - 1 {
		super := "K" + strconv.Itoa(i+1)
		if i == api.MaxClasses-2 {
			super = "Main"
		}
		l = append(l, sample.Class{Name: "K" + strconv.Itoa(i) + ":" + super})
		lines = append(lines, api.Line{Name: "K" + strconv.Itoa(i), Super: super})
	}
	holdHier(t, sample.Link(l...), append(lines, main)...)
	// Programs without classes of their own, and without any.
	p := sample.Link()
	p.Classes = p.Classes[:api.BuiltIn]
	holdHier(t, p)
	holdHier(t, api.Program{})
	holdHier(t, api.Program{Statics: sample.Types("int")})
}

func TestFirst(t *testing.T) {
	for _, x := range []struct {
		what   string
		locals int
		want   string
	}{
		{"static f ()V", 0, ""}, {"static f ()V", 3, "top top top"}, {"static f (I)V", 1, "int"}, {"static f (J)V", 2, "long top"}, {"static f (J)V", 4, "long top top top"}, {"f ()V", 1, "T"}, {"f ()V", 2, "T top"}, {"<init> (J[I)V", 4, "T long top [I"}, {"f (JJI)J", 7, "T long top long top int top"},
		{"static f (I[JLA;J[LC;)[[I", 7, "int [J A long top [LC; top"}, {"static f (LX;[LX;)V", 2, "X [LX;"}, {"static f (" + sample.Dims(17) + "I)V", 1, sample.Dims(17) + "I"}, {"static f (J)V", 64, "long top" + strings.Repeat(" top", 62)}, {"f (" + strings.Repeat("I", 63) + ")V", 64, "T" + strings.Repeat(" int", 63)},
	} {
		p := sample.Link(sample.Single(x.what, 1, x.locals, "a: goto a")...)
		_, name, desc := sample.Member(x.what)
		f := sample.Named(p, "T."+name+desc)
		kept := linker.Clone(p)
		s := typing.First(p, f)
		if !vtype.Same(s, sample.Shape(x.want, "")) {
			t.Error(x, sample.Text(s))
		}
		clearAll(s)
		if !linker.Same(p, kept) || !vtype.Same(typing.First(p, f), sample.Shape(x.want, "")) {
			t.Error("shared", x)
		}
	}
}

// TestByHand has methods of a program that has just the classes that are built in: addresses twice, in any order, and far apart.
func TestByHand(t *testing.T) {
	p := sample.Link()
	p.Classes, p.Funcs, p.Main = p.Classes[:api.BuiltIn], nil, 0
	r := numbers{11}
	for range 300 {
		f := api.Func{Static: true, Stack: 1 + r.Below(3), Locals: 4}
		for range 1 + r.Below(7) {
			kind := []int{api.KNop, api.KInt, api.KPop, api.KGoto, api.KIfNull, api.KThrow, api.KNull}[r.Below(7)]
			f.Ops = append(f.Ops, api.Op{At: r.Below(12) << r.Below(3) * 10, Kind: kind})
		}
		for i := range f.Ops {
			f.Ops[i].To = f.Ops[r.Below(len(f.Ops))].At
		}
		for range r.Below(4) {
			from := f.Ops[r.Below(len(f.Ops))].At
			f.Catches = append(f.Catches, api.Catch{From: from, To: from + 1<<r.Below(20), At: f.Ops[r.Below(len(f.Ops))].At, Class: api.ClThrowable + r.Below(7)})
		}
		if r.Below(2) == 0 {
			slices.SortFunc(f.Ops, func(a, b api.Op) int { return a.At - b.At })
		}
		p.Funcs = append(p.Funcs, f)
	}
	m := meaning(p)
	for f := range p.Funcs {
		for i := range p.Funcs[f].Ops {
			for _, s := range []string{"", "null", sample.Object, "int", "null java/lang/ArithmeticException"} {
				holdStep(t, m, f, i, sample.Shape("int top null long", s))
			}
		}
	}
}

// TestNoOperations has a method that does nothing at all: there is no first entry that would be known.
func TestNoOperations(t *testing.T) {
	p := sample.Link()
	p.Funcs = []api.Func{{Static: true, Stack: 1, Locals: 1}}
	if at, e := typing.Wrong(p, 0, nil); at != 0 || e != api.ErrType || typing.Holds(p, 0, []api.Known{}) {
		t.Error(at, e)
	}
	if at, e := typing.Wrong(p, 0, []api.Known{{Is: true}}); at != 0 || e != api.ErrArg {
		t.Error(at, e)
	}
	holdNothing(t, p, 0, 0)
	if s := typing.First(p, 0); !vtype.Same(s, sample.Shape("top", "")) {
		t.Error(s)
	}
}
