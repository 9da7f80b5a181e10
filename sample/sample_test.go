package sample_test

import (
	"slices"
	"testing"

	"tabard/api"
	"tabard/linker"
	"tabard/sample"
)

// TestLink is what README.md shows, and a program of all sorts of words.
func TestLink(t *testing.T) {
	p := sample.Link(sample.Class{Name: "B:A"}, sample.Class{Name: "A", Fields: []string{"x J", "static y [I"}, Methods: []sample.Method{
		{What: "static f (I)I", Stack: 1, Locals: 1, Code: "top: iload 0 | ifeq out | iinc 0 -1 | goto top | out: iload 0 | ireturn"},
		{What: "g ()V", Stack: 2, Locals: 3, Code: "a: b: ldc 70000 | bipush -5 | pop | ldc2_w 5 | lstore 1 | aload 0 | c: getfield A.x J | new B | invokevirtual A.g ()V | getstatic A.y [I | invokestatic Sys.in ()I | checkcast [LB; | return", Handlers: []string{"a c b java/lang/ArithmeticException", "b end a"}},
	}})
	f := p.Funcs[sample.Named(p, "A.f(I)I")]
	var kinds []int
	for _, x := range f.Ops {
		kinds = append(kinds, x.Kind)
	}
	if !f.Static || f.Stack != 1 || f.Locals != 1 || !slices.Equal(kinds, []int{api.KILoad, api.KIf, api.KIInc, api.KGoto, api.KILoad, api.KReturn}) || f.Ops[1].To != f.Ops[4].At || f.Ops[3].To != 0 || f.Ops[2].N != -1 {
		t.Error(f)
	}
	g := p.Funcs[sample.Named(p, "A.g()V")]
	if g.Static || len(g.Ops) != 13 || g.Ops[0].N != 70000 || g.Ops[1].N != -5 || g.Ops[3].N != 5 || g.Ops[4].A != 1 || len(g.Catches) != 2 {
		t.Error(g)
	}
	end := g.Ops[12].At + 1
	if g.Catches[0] != (api.Catch{From: 0, To: g.Ops[6].At, At: 0, Class: api.ClArith}) || g.Catches[1].To != end || g.Catches[1].Class != api.ClThrowable {
		t.Error(g.Catches)
	}
	if linker.Name(p, p.Main) != "Main.main()I" || p.Classes[8].Name != "B" || p.Classes[8].Super != 9 || p.Classes[9].Super != api.ClObject {
		t.Error(p.Classes)
	}
}

// TestWrongTexts has texts that are wrong: the test that has them stops.
func TestWrongTexts(t *testing.T) {
	for _, m := range []sample.Method{
		{What: "f ()V", Code: "retur"}, {What: "f ()V", Code: "goto a | return"}, {What: "f ()V", Locals: 1, Code: "iload x | return"}, {What: "f ()", Code: "return"}, {What: "f ()V", Code: "a: return", Handlers: []string{"a end b"}}, {What: "f ()V", Code: "new [A | return"},
	} {
		stops(t, m.Code, func() { sample.Link(sample.Class{Name: "A", Methods: []sample.Method{m}}) })
	}
	stops(t, "no main", func() { sample.LinkAll(sample.Class{Name: "A"}) })
	stops(t, "no method", func() { sample.Named(sample.Link(), "A.f()V") })
	stops(t, "twice", func() { sample.Link(sample.Class{Name: "A"}, sample.Class{Name: "A"}) })
}

func stops(t *testing.T, what string, do func()) {
	t.Helper()
	defer func() {
		if recover() == nil {
			t.Error(what)
		}
	}()
	do()
}

func TestShape(t *testing.T) {
	s := sample.Shape("top int long", "null A [J")
	want := api.Shape{Locals: []api.Type{{}, {Kind: api.TyInt}, {Kind: api.TyLong}}, Stack: []api.Type{{Kind: api.TyNull}, {Kind: api.TyRef, Name: "A"}, {Kind: api.TyRef, Name: "[J"}}}
	if !slices.Equal(s.Locals, want.Locals) || !slices.Equal(s.Stack, want.Stack) || sample.Text(s) != "top int long / null A [J /" || sample.Dims(3) != "[[[" {
		t.Error(sample.Text(s))
	}
}

// TestSamples has the classes that are meant to be linked together.
func TestSamples(t *testing.T) {
	p := sample.Link(append(sample.Single("static t ()V", 0, 0, "return"), sample.Class{Name: "R:A", Methods: sample.Right()}, sample.Odd())...)
	for _, name := range []string{"T.t()V", "A.w()V", "R.loop()I", "U.y(I[LX;)[LX;"} {
		if f := p.Funcs[sample.Named(p, name)]; len(f.Ops) == 0 {
			t.Error(name)
		}
	}
}

// TestNumbers has the same ones each time, and all that may be.
func TestNumbers(t *testing.T) {
	a, b, got := sample.Numbers(3), sample.Numbers(3), map[int]int{}
	for range 600 {
		n := a.Below(6)
		if n != b.Below(6) {
			t.Error("others")
		}
		got[n]++
	}
	for n := range 6 {
		if got[n] < 50 {
			t.Error(got)
		}
	}
}
