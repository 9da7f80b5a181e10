package typing_test

import (
	"testing"

	"tabard/api"
	"tabard/classfile"
	"tabard/linker"
	"tabard/typing"
)

// TestReadme is what README.md shows.
func TestReadme(t *testing.T) {
	c, _ := classfile.New("Main", "java/lang/Object")
	c, _ = classfile.WithMethod(c, "main", "()I", api.Member{Access: api.AccStatic, Stack: 1, Locals: 1, Code: []byte{8, 59, 132, 0, 255, 26, 154, 255, 252, 26, 172}})
	b, e := classfile.Encode(c)
	if e != api.OK {
		t.Fatal(e)
	}
	p, _, e := linker.Link(b)
	if e != api.OK {
		t.Fatal(e)
	}
	s := typing.First(p, p.Main)
	if len(s.Locals) != 1 || s.Locals[0].Kind != api.TyTop || len(s.Stack) != 0 {
		t.Error(s)
	}
	l, e := typing.Step(p, p.Main, 0, s)
	if e != api.OK || len(l) != 1 || l[0].To != 1 || len(l[0].Shape.Stack) != 1 || l[0].Shape.Stack[0].Kind != api.TyInt {
		t.Error(l, e)
	}
	if l, e := typing.Step(p, p.Main, 1, s); l != nil || e != api.ErrUnder {
		t.Error(l, e)
	}
	if l, is := typing.Takes(p, p.Main, 1); !is || len(l) != 1 || l[0].Kind != api.TyInt {
		t.Error(l, is)
	}
	if _, is := typing.Hier(p).Find("Main"); !is {
		t.Error("Hier")
	}
	table := make([]api.Known, 7)
	table[0] = api.Known{Is: true, Shape: s}
	if n, e := typing.Wrong(p, p.Main, table); n != 0 || e != api.ErrType || typing.Holds(p, p.Main, table) {
		t.Error(n, e)
	}
	for i := range table {
		l, e := typing.Step(p, p.Main, i, table[i].Shape)
		if e != api.OK {
			t.Error(i, e)
		}
		for _, x := range l {
			table[x.To] = api.Known{Is: true, Shape: x.Shape}
		}
	}
	if !typing.Holds(p, p.Main, table) {
		t.Error(table)
	}
}
