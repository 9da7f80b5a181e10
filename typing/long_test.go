package typing_test

import (
	"slices"
	"strconv"
	"strings"
	"testing"

	"tabard/api"
	"tabard/sample"
	"tabard/typing"
	"tabard/vtype"
)

// covered is a method whose operations are all covered by all handlers that may be; jumping is one of nothing but jumps.
func covered() sample.Method {
	ops := strings.Repeat(" | nop", api.MaxCode-3)
	return sample.Method{What: "f (J)V", Stack: 1, Locals: api.MaxLocals, Code: "a: nop" + ops + " | return | b: athrow", Handlers: slices.Repeat([]string{"a end b F"}, api.MaxHandlers)}
}

func jumping() sample.Method {
	code := "iconst_0 | istore 3"
	for i := range api.MaxCode/5 - 3 {
		code += " | iload 3 | ifeq end" + strconv.Itoa(i%7)
	}
	for i := range 7 {
		code += " | end" + strconv.Itoa(i) + ": nop"
	}
	return sample.Method{What: "g (J)V", Stack: 1, Locals: api.MaxLocals, Code: code + " | return"}
}

// TestLongest has methods that are as long as may be, in a program of as many classes as may be.
func TestLongest(t *testing.T) {
	l := append(sample.Family(), sample.Class{Name: "T", Methods: []sample.Method{covered(), jumping()}})
	for i := len(l); i < api.MaxClasses-1; i++ {
		l = append(l, sample.Class{Name: "K" + strconv.Itoa(i) + ":C"})
	}
	p := sample.Link(l...)
	for _, name := range []string{"T.f(J)V", "T.g(J)V"} {
		f := sample.Named(p, name)
		table := make([]api.Known, len(p.Funcs[f].Ops))
		table[0] = api.Known{Is: true, Shape: typing.First(p, f)}
		for i := range table {
			l, e := typing.Step(p, f, i, table[i].Shape)
			if !table[i].Is || e != api.OK {
				t.Fatal(name, i, e)
			}
			for _, x := range l {
				if x.To > i {
					table[x.To] = api.Known{Is: true, Shape: x.Shape}
				}
			}
		}
		if at, e := typing.Wrong(p, f, table); at != 0 || e != api.OK {
			t.Fatal(name, at, e)
		}
	}
}

// TestLongShapes has far more on the stack than a method may have, and names far longer.
func TestLongShapes(t *testing.T) {
	m := meaning(sample.Link(sample.Single("static f ()V", 64, 1, "pop | dup | iadd | a: return", "a end a")...))
	f := sample.Named(m.p, "T.f()V")
	const n = 1 << 20
	s := api.Shape{Locals: sample.Types("A"), Stack: slices.Repeat(sample.Types("int A [LA;"), n)}
	for i := range m.p.Funcs[f].Ops {
		want := api.ErrOver
		if i == 2 {
			want = api.ErrType
		}
		if l, e := typing.Step(m.p, f, i, s); l != nil || e != want {
			t.Error(i, e)
		}
	}
	s.Stack[0] = ref("X")
	if _, e := typing.Step(m.p, f, 0, s); e != api.ErrArg {
		t.Error(e)
	}
	s.Stack = nil
	for _, name := range []string{strings.Repeat("[", n), strings.Repeat("A", n), "[L" + strings.Repeat("A", n) + ";", strings.Repeat("[LA;", n)} {
		s.Locals[0] = ref(name)
		if _, e := typing.Step(m.p, f, 3, s); e != api.ErrArg {
			t.Error(e)
		}
		if at, e := typing.Wrong(m.p, f, slices.Repeat([]api.Known{{Is: true, Shape: s}}, 4)); at != 0 || e != api.ErrType {
			t.Error(at, e)
		}
	}
	long := api.Shape{Locals: slices.Repeat(sample.Types("A"), n)}
	if _, e := typing.Step(m.p, f, 3, long); e != api.ErrArg {
		t.Error(e)
	}
	if at, e := typing.Wrong(m.p, f, []api.Known{{Is: true, Shape: long}, {}, {}, {}}); at != 0 || e != api.ErrType {
		t.Error(at, e)
	}
	if !vtype.Same(typing.First(m.p, f), sample.Shape("top", "")) {
		t.Error("First")
	}
}
