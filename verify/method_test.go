package verify_test

import (
	"math"
	"slices"
	"strings"
	"testing"

	"tabard/api"
	"tabard/linker"
	"tabard/sample"
	"tabard/verify"
)

// right is a program of methods that keep the rules.
func right() api.Program {
	return sample.Link(append(sample.Family(), sample.Class{Name: "R:A", Methods: sample.Right()})...)
}

// TestTables is tables as they stand in a reader's mind.
func TestTables(t *testing.T) {
	p := right()
	for name, want := range map[string]string{
		"Main.main()I":   "/ / ; / int /", // the document's example
		"R.alone()V":     "/ /",
		"R.ever()V":      "top top top / /",
		"R.loop()I":      "top top / / ; top top / int / ; int top / / ; int top / int / ; int top / / ; int top / int / ; int int / / ; int int / / ; int top / / ; int top / int /",
		"R.caught(I)I":   "int top / / ; int top / int / ; int top / int int / ; int top / int / ; int top / java/lang/Throwable / ; int java/lang/Throwable / / ; int java/lang/Throwable / int /",
		"R.joined(I)LC;": "int top / / ; int top / int / ; int top / / ; int top / A / ; int A / / ; int top / / ; int top / B / ; int C / / ; int C / C /",
		"R.dead()V":      "top / / ; - ; - ; - ; - ; top / /",
		"R.thrown(LE;)V": "E top / / ; E top / E / ; E top / java/lang/Throwable / ; E top / F / ; E top / /",
		"R.round()V":     "top / / ; top / F / ; F / / ; F / null / ; top / java/lang/Throwable / ; java/lang/Throwable / /",
	} {
		l, at, e := verify.Method(p, sample.Named(p, name))
		if got := strings.Join(texts(l), " ; "); at != 0 || e != api.OK || got != want {
			t.Error(name, at, e, got)
		}
	}
	m := meaning(p)
	for f := range p.Funcs {
		if e := m.hold(t, f); e != api.OK {
			t.Error(linker.Name(p, f), e)
		}
	}
	if f := verify.Program(p); f != (api.Fault{}) {
		t.Error(f)
	}
}

// fault is a method f that may not be: the place and the error.
type fault struct {
	desc, code string
	at         int
	e          string
	handlers   []string
}

// hold holds Method, and Program, against what is told of a method.
func (x fault) hold(t *testing.T) {
	t.Helper()
	p := sample.Link(sample.Single("static f "+x.desc, 3, 3, x.code, x.handlers...)...)
	f := sample.Named(p, "T.f"+x.desc)
	if l, at, e := verify.Method(p, f); at != x.at || e != errno(x.e) || (l == nil) != (e != api.OK) {
		t.Error(x, l, at, e)
	}
	want := api.Fault{Func: f, At: x.at, Err: errno(x.e)}
	if want.Err == api.OK {
		want = api.Fault{}
	}
	if got := verify.Program(p); got != want {
		t.Error(x, got)
	}
	meaning(p).hold(t, f)
}

// TestFaults has an error of each sort.
func TestFaults(t *testing.T) {
	for _, x := range []fault{
		{"()V", "iadd", 0, "ErrUnder", nil}, {"()V", "iconst_0 | iconst_0 | nop | ladd", 3, "ErrType", nil}, {"()V", "nop | iload 1 | return", 1, "ErrVar", nil}, {"()V", "iconst_0 | iconst_0 | lconst_0 | return", 2, "ErrOver", nil}, {"()I", "nop | return", 1, "ErrReturn", nil}, {"()V", "nop | nop", 1, "ErrFall", nil},
		{"(LX;)V", "return", 0, "ErrArg", nil}, {"(LX;)V", "iadd", 0, "ErrArg", nil},
		// What is put, and may not be, is asked about where one comes with it.
		{"()V", "getstatic S.x LX; | pop | return", 1, "ErrArg", nil}, {"()V", "new A | getfield A.xs [LX; | pop | return", 2, "ErrArg", nil},
		// A goto to an operation with another stack: longer, shorter, of types that have nothing in common.
		{"()V", "a: iconst_0 | goto a", 0, "ErrJoin", nil}, {"()V", "iconst_0 | a: pop | goto a", 1, "ErrJoin", nil}, {"()V", "iconst_0 | a: pop | aconst_null | goto a", 1, "ErrJoin", nil}, {"()V", "iconst_0 | a: pop | goto b | nop | b: iconst_1 | i2l | goto a", 1, "ErrJoin", nil}, {"()V", "iconst_1 | iconst_0 | ifeq a | pop | aconst_null | a: pop | return", 5, "ErrJoin", nil},
		// Or of such as have something in common.
		{"()V", "aconst_null | a: pop | new A | goto a", 0, "OK", nil}, {"()V", "new A | a: pop | iconst_1 | newarray 10 | goto a", 0, "OK", nil},
		// A handler has what was thrown alone on its stack.
		{"()V", "a: iconst_0 | b: ifeq b | return", 1, "ErrJoin", []string{"a end b"}}, {"()V", "a: nop | b: aconst_null | c: athrow", 0, "OK", []string{"a end c"}}, {"()V", "a: nop | b: aconst_null | c: athrow", 1, "ErrJoin", []string{"a b b"}}, {"()V", "a: nop | goto a | b: iinc 1 1 | return", 2, "ErrVar", []string{"a b b"}}, {"()V", "iconst_0 | ifeq h | i: nop | n: return | h: return", 4, "ErrJoin", []string{"i n h"}},
		// What is not come to is not asked.
		{"()V", "return | iadd", 0, "OK", nil}, {"()V", "goto c | b: iadd | c: return", 0, "OK", nil}, {"()V", "goto c | b: iadd | c: iconst_0 | pop | ladd", 4, "ErrUnder", nil},
	} {
		x.hold(t)
	}
}

// TestWhichFault has methods with more than one fault: the least place that waits is done next, and flows are told in order.
func TestWhichFault(t *testing.T) {
	for _, x := range []fault{
		{"()V", "iconst_0 | ifeq b | iadd | b: ladd", 2, "ErrUnder", nil}, {"()V", "goto c | b: iadd | c: iconst_0 | ifeq b | ladd", 1, "ErrUnder", nil}, {"()V", "goto c | b: return | c: iconst_0 | ifeq b | ladd", 4, "ErrUnder", nil}, {"()V", "goto c | b: lconst_0 | lconst_1 | pop | c: iconst_0 | ifeq b | ladd", 2, "ErrOver", nil}, {"()V", "iconst_0 | goto c | b: pop | aconst_null | c: ifeq b | iadd | return", 2, "ErrUnder", nil},
		// A place is done again, with less than before, ahead of others that wait longer.
		{"()V", "iconst_0 | istore 1 | a: iload 1 | pop | aconst_null | astore 1 | goto a", 2, "ErrVar", nil}, {"()V", "iconst_0 | istore 1 | a: iload 1 | ifeq x | aconst_null | astore 1 | iconst_0 | ifeq a | x: iadd", 2, "ErrVar", nil}, {"()V", "new A | astore 1 | a: nop | aload 1 | getfield A.i I | istore 2 | new C | astore 1 | goto a", 4, "ErrType", nil}, {"()V", "new D | astore 1 | a: aload 1 | getfield A.i I | ifeq b | new A | astore 1 | goto a | b: return", 0, "OK", nil},
		// Two flows of one operation that can't be joined: of a jump ahead, of a jump behind, of a handler.
		{"()V", "iconst_0 | t: iconst_0 | ifeq i | goto n | i: ifeq t | n: pop | return", 1, "ErrJoin", nil}, {"()V", "iconst_0 | iconst_0 | ifeq i | iconst_0 | ifeq t | goto n | i: ifeq t | n: pop | return | t: pop | return", 7, "ErrJoin", nil}, {"()V", "iconst_0 | ifeq h | iconst_0 | iconst_0 | ifeq i | goto n | i: pop | n: pop | h: return", 7, "ErrJoin", []string{"i n h"}},
		{"()V", "iconst_0 | ifeq h | iconst_0 | ifeq g | i: nop | n: return | h: return | g: return", 7, "ErrJoin", []string{"i n g", "i n h"}},
		// An operation's own error comes ahead of where it goes on.
		{"()V", "a: iconst_0 | iconst_0 | iconst_0 | iconst_0 | goto a", 3, "ErrOver", nil}, {"()V", "iconst_0 | ifeq h | i: iadd | n: return | h: return", 2, "ErrUnder", []string{"i n h"}},
		// A type that may not be is not even joined with itself: the second time that one comes with it, ahead of asking about it.
		{"()V", "new D | goto a | h: pop | new A | a: getfield A.x LX; | b: pop | return", 5, "ErrJoin", []string{"a b h"}}, {"()V", "new A | goto a | h: pop | new D | a: getfield A.x LX; | b: pop | return", 5, "ErrArg", []string{"a b h"}},
		{"()V", "iconst_0 | istore 1 | goto a | h: pop | aconst_null | astore 1 | a: getstatic S.x LX; | b: pop | return", 7, "ErrJoin", []string{"a b h"}}, {"()V", "iconst_0 | istore 1 | goto a | h: pop | iconst_1 | istore 1 | a: getstatic S.x LX; | b: pop | return", 7, "ErrArg", []string{"a b h"}},
	} {
		x.hold(t)
	}
}

// far are numbers of no method; some would be one if they were cut.
func far(p api.Program) []int {
	return []int{math.MinInt, -1 << 32, math.MinInt32, -2, -1, len(p.Funcs), len(p.Funcs) + 1, 1 << 31, 1 << 32, 1<<32 + 1, math.MaxInt}
}

// TestNoMethod has numbers of no method, and methods without operations.
func TestNoMethod(t *testing.T) {
	lost := right()
	for f := range lost.Funcs {
		lost.Funcs[f].Ops, lost.Funcs[f].Catches = nil, nil
	}
	for f := range lost.Funcs {
		if l, at, e := verify.Method(lost, f); l != nil || at != 0 || e != api.ErrArg {
			t.Error(f, l, at, e)
		}
	}
	for _, p := range []api.Program{right(), lost, {}, {Statics: sample.Types("int")}} {
		for _, f := range far(p) {
			if l, at, e := verify.Method(p, f); l != nil || at != 0 || e != api.ErrArg {
				t.Error(f, l, at, e)
			}
		}
	}
}

// TestOthersAreNotAsked is of methods of which the others have lost all: a table hangs on the method's own operations.
func TestOthersAreNotAsked(t *testing.T) {
	p := right()
	for f := range p.Funcs {
		q := linker.Clone(p)
		for k := range q.Funcs {
			if k != f {
				q.Funcs[k].Ops, q.Funcs[k].Catches = nil, nil
			}
		}
		want, _, _ := verify.Method(p, f)
		if got, at, e := verify.Method(q, f); at != 0 || e != api.OK || !same(got, want) {
			t.Error(linker.Name(p, f), at, e)
		}
	}
}

// TestProgram has programs with many faults: the first method that may not be, by numbers.
func TestProgram(t *testing.T) {
	good, bad, late := sample.Method{What: "static g ()V", Code: "return"}, sample.Method{What: "static b ()V", Stack: 1, Code: "nop | pop"}, sample.Method{What: "static l ()I", Stack: 1, Code: "iconst_0 | pop | nop | return"}
	named := func(name string, l ...sample.Method) sample.Class { return sample.Class{Name: name, Methods: l} }
	for _, x := range []struct {
		classes []sample.Class
		want    api.Fault
	}{
		{nil, api.Fault{}}, {[]sample.Class{named("A", good), named("B", good)}, api.Fault{}}, {[]sample.Class{named("A", bad, late)}, api.Fault{Func: 0, At: 1, Err: api.ErrUnder}}, {[]sample.Class{named("A", late, bad)}, api.Fault{Func: 0, At: 3, Err: api.ErrReturn}},
		{[]sample.Class{named("A", good, late), named("B", bad)}, api.Fault{Func: 1, At: 3, Err: api.ErrReturn}}, {[]sample.Class{named("A", good), named("B", bad), named("C", late)}, api.Fault{Func: 1, At: 1, Err: api.ErrUnder}},
	} {
		p := sample.Link(x.classes...)
		if got := verify.Program(p); got != x.want || got != meaning(p).program() {
			t.Error(x, got)
		}
	}
	// main itself is refused; and the method behind all others.
	for code, want := range map[string]api.Fault{"iconst_0 | areturn": {Func: 1, At: 1, Err: api.ErrReturn}, "nop | pop | iconst_1 | ireturn": {Func: 1, At: 1, Err: api.ErrUnder}, "iconst_1 | ireturn": {}} {
		if got := verify.Program(sample.LinkAll(named("A", good), sample.Main(1, 0, code))); got != want {
			t.Error(code, got)
		}
	}
	for _, p := range []api.Program{{}, {Statics: sample.Types("int A")}, {Classes: sample.Link().Classes[:api.BuiltIn]}} {
		if got := verify.Program(p); got != (api.Fault{}) {
			t.Error(got)
		}
	}
}

// TestNobodysElse writes to a table, also behind its lists' ends: neither another entry, nor the program, nor another answer is changed.
func TestNobodysElse(t *testing.T) {
	p := right()
	kept := linker.Clone(p)
	for f := range p.Funcs {
		l, _, _ := verify.Method(p, f)
		want := texts(l)
		for i := range l {
			for _, list := range [][]api.Type{l[i].Shape.Locals, l[i].Shape.Stack} {
				list = list[:cap(list)]
				for k := range list {
					list[k] = api.Type{Kind: 77, Name: "?"}
				}
			}
			for k := range l {
				if k > i && texts(l)[k] != want[k] {
					t.Error("shared", linker.Name(p, f), i, k)
				}
			}
		}
		if again, _, _ := verify.Method(p, f); !slices.Equal(texts(again), want) {
			t.Error("kept", linker.Name(p, f))
		}
	}
	if !linker.Same(p, kept) {
		t.Error("written to")
	}
}
