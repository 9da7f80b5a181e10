package verify_test

import (
	"slices"
	"strconv"
	"strings"
	"testing"

	"tabard/api"
	"tabard/linker"
	"tabard/sample"
	"tabard/typing"
	"tabard/verify"
)

// chain is classes K0, K1 .., each under the one ahead of it: with those of the program beside them, as many as may be.
func chain(beside int) []sample.Class {
	l := []sample.Class{{Name: "K0"}}
	for n := 1; n < api.MaxClasses-beside; n++ {
		l = append(l, sample.Class{Name: "K" + strconv.Itoa(n) + ":K" + strconv.Itoa(n-1)})
	}
	return l
}

// filled is code that puts null to all locals but the first.
func filled() string {
	s := ""
	for n := 1; n < api.MaxLocals; n++ {
		s += "aconst_null | astore " + strconv.Itoa(n) + " | "
	}
	return s
}

// covered is a method as long as may be, covered by as many handlers as may be, at places of their own.
func covered() sample.Method {
	m := sample.Method{What: "covered ()V", Stack: 1, Locals: api.MaxLocals, Code: filled() + "a: "}
	behind := ""
	for n := range api.MaxHandlers {
		h := "h" + strconv.Itoa(n)
		m.Handlers = append(m.Handlers, "a h0 "+h)
		behind += " | " + h + ": pop | goto " + h + "x | " + h + "x: return"
	}
	size := api.MaxCode - 190 - 1 - 5*api.MaxHandlers
	m.Code += strings.Repeat("nop | ", size) + "return" + behind
	return m
}

// rounds is a method with many ways back to its head, each of which comes there with another type in a local.
func rounds(ways, locals int) sample.Method {
	code := filled() + "top: " + strings.Repeat("nop | ", 60)
	for i := range ways {
		n := strconv.Itoa(i)
		code += "iconst_1 | ifeq t" + n + " | new K" + strconv.Itoa(max(60-i/locals, 0)) + " | astore " + strconv.Itoa(1+i%locals) + " | goto top | t" + n + ": "
	}
	return sample.Method{What: "rounds ()V", Stack: 1, Locals: api.MaxLocals, Code: code + "return"}
}

// moved is a method whose locals move on by one each time that the loop is gone round.
func moved() sample.Method {
	code := filled() + "new K60 | astore 1 | top: "
	for n := api.MaxLocals - 1; n > 1; n-- {
		code += "aload " + strconv.Itoa(n-1) + " | astore " + strconv.Itoa(n) + " | "
	}
	return sample.Method{What: "moved ()V", Stack: 1, Locals: api.MaxLocals, Code: code + "new K7 | astore 1 | goto top"}
}

// branches is a method with as many jumps to places far behind as may be: all of them wait for long.
func branches() sample.Method {
	code, behind := "", ""
	for i := range 500 {
		n := "b" + strconv.Itoa(i)
		code += "iconst_0 | ifeq " + n + " | "
		behind = n + ": goto " + n + " | " + behind
	}
	return sample.Method{What: "branches ()V", Stack: 1, Locals: 1, Code: code + "return | " + behind + "return"}
}

// TestLongest has methods that are as long as may be, of all sorts that take long.
func TestLongest(t *testing.T) {
	p := sample.Link(append(chain(2), sample.Class{Name: "T", Methods: []sample.Method{covered(), rounds(120, 3), moved(), branches()}})...)
	if f := verify.Program(p); f != (api.Fault{}) {
		t.Error(linker.Name(p, f.Func), f)
	}
	for name, want := range map[string]map[[2]int]string{
		// Of a place, from behind if it is below 0, and a local: the name of the type.
		"T.covered()V": {{-2, 0}: "T", {-2, 63}: ""}, "T.rounds()V": {{126, 1}: "K21", {-1, 3}: "K21"}, "T.moved()V": {{128, 1}: "K7", {128, 63}: "K7"}, "T.branches()V": {{-2, 0}: "T"},
	} {
		l, _, _ := verify.Method(p, sample.Named(p, name))
		for x, class := range want {
			if got := l[(x[0]+len(l))%len(l)].Shape.Locals[x[1]].Name; got != class {
				t.Error(name, x, got)
			}
		}
	}
	m := meaning(p)
	for _, name := range []string{"T.rounds()V", "T.moved()V", "T.branches()V"} {
		m.hold(t, sample.Named(p, name))
	}
}

// TestFarLonger has a method that is far longer than Link takes, of a program with just the classes that are built in, and tables as long.
func TestFarLonger(t *testing.T) {
	const n = 1 << 16
	f := api.Func{Static: true, Locals: 2, Stack: 3}
	for i := range n {
		f.Ops = append(f.Ops, api.Op{At: i, Kind: []int{api.KNull, api.KAStore, api.KInt, api.KIStore}[i%4]})
	}
	f.Ops = append(f.Ops, api.Op{At: n, Kind: api.KReturn})
	p := api.Program{Classes: sample.Link().Classes[:api.BuiltIn], Funcs: []api.Func{f}}
	l, at, e := verify.Method(p, 0)
	if at != 0 || e != api.OK || len(l) != n+1 || sample.Text(l[n].Shape) != "int top / /" || sample.Text(l[n-2].Shape) != "null top / /" {
		t.Fatal(len(l), at, e)
	}
	if places := slices.Collect(verify.Reached(l)); len(places) != n+1 || verify.Deepest(l) != 1 || !verify.Same(l, cloned(l)) || !verify.Below(p, l, l) || !typing.Holds(p, 0, l) {
		t.Error("the table")
	}
	p.Funcs[0].Ops[n].A = api.VInt
	if got := verify.Program(p); got != (api.Fault{At: n, Err: api.ErrReturn}) {
		t.Error(got)
	}
}
