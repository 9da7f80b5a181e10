package typing_test

import (
	"strings"
	"testing"

	"tabard/api"
	"tabard/linker"
	"tabard/sample"
	"tabard/typing"
	"tabard/vtype"
)

// TestWords is the document's words on operations, each with what it makes of locals and a stack.
func TestWords(t *testing.T) {
	for _, x := range []struct {
		op, locals, stack string
		want              string // locals and stack; or the error
	}{
		// The document's examples.
		{"iadd", "", "int long", "ErrType"}, {"iadd", "", "int", "ErrUnder"}, {"aaload", "", "[[I int", " / [I /"}, {"lstore 1", "long top top", "long", "top long top / /"},
		// The topmost is asked first.
		{"lshl", "", "long int", " / long /"}, {"lshl", "", "int long", "ErrType"}, {"lshl", "", "int", "ErrUnder"}, {"lshl", "", "long", "ErrType"}, {"lshl", "", "", "ErrUnder"}, {"lshl", "", "int int", "ErrType"}, {"iastore", "", "[I int", "ErrType"}, {"iastore", "", "[I long int", "ErrType"}, {"iastore", "", "int int", "ErrUnder"}, {"iastore", "", "long int", "ErrType"}, {"dup_x1", "", "long A", "ErrType"}, {"dup_x1", "", "A long", "ErrType"}, {"dup_x1", "", "long", "ErrType"}, {"dup_x1", "", "A", "ErrUnder"},
		{"dup_x1", "", "long int A", " / long A int A /"}, {"swap", "", "top null", " / null top /"}, {"swap", "", "int long", "ErrType"}, {"dup", "", "top", " / top top /"}, {"dup", "", "long", "ErrType"}, {"pop", "", "top", " / /"}, {"pop", "", "long", "ErrType"},
		// What is put is what was there, not what it fits.
		{"astore 0", "int", "B", "B / /"}, {"astore 0", "int", "null", "null / /"}, {"astore 0", "int", "[J", "[J / /"}, {"astore 0", "int", "top", "ErrType"}, {"astore 0", "int", "int", "ErrType"}, {"aload 0", "[LA;", "", "[LA; / [LA; /"}, {"aload 0", "null", "", "null / null /"}, {"aload 0", "top", "", "ErrVar"}, {"aload 0", "long", "", "ErrVar"}, {"checkcast A", "", "E", " / A /"}, {"checkcast [J", "", "null", " / [J /"}, {"checkcast A", "", "top", "ErrType"}, {"instanceof A", "", "[I", " / int /"}, {"instanceof A", "", "int", "ErrType"},
		// Stores, and longs of two locals.
		{"istore 0", "long top", "int", "int top / /"}, {"istore 1", "long top", "int", "top int / /"}, {"istore 1", "int long top", "int", "int int top / /"}, {"istore 2", "long long top", "int", "long top int / /"}, {"istore 2", "long top top", "int", "long top int / /"}, {"lstore 0", "int int", "long", "long top / /"}, {"lstore 0", "int long top", "long", "long top top / /"}, {"lstore 1", "long long long", "long", "top long top / /"}, {"astore 1", "long top", "A", "top A / /"}, {"istore 0", "long", "int", "int / /"}, {"istore 0", "int", "long", "ErrType"}, {"lstore 0", "int int", "int", "ErrType"}, {"istore 0", "int", "", "ErrUnder"},
		{"iinc 0 1", "int", "A", "int / A /"}, {"iinc 0 1", "long", "", "ErrVar"}, {"iinc 0 1", "top", "", "ErrVar"}, {"iinc 0 1", "A", "", "ErrVar"}, {"iload 1", "int long", "", "ErrVar"}, {"lload 0", "long int", "", "long int / long /"}, {"lload 0", "long long", "", "long long / long /"}, {"lload 0", "int int", "", "ErrVar"}, {"lload 0", "top top", "", "ErrVar"},
		// Arrays.
		{"iaload", "", "null int", " / int /"}, {"laload", "", "null int", " / long /"}, {"aaload", "", "null int", " / null /"}, {"iaload", "", "[I int", " / int /"}, {"iaload", "", "[J int", "ErrType"}, {"laload", "", "[I int", "ErrType"}, {"iaload", "", "[[I int", "ErrType"}, {"iaload", "", sample.Object + " int", "ErrType"}, {"aaload", "", sample.Object + " int", "ErrType"}, {"aaload", "", "[I int", "ErrType"}, {"aaload", "", "A int", "ErrType"}, {"aaload", "", "[LA; int", " / A /"}, {"aaload", "", sample.Dims(16) + "J int", " / " + sample.Dims(15) + "J /"},
		{"aastore", "", "[LA; int E", " / /"}, {"aastore", "", "[[I int null", " / /"}, {"aastore", "", "null int [J", " / /"}, {"aastore", "", "[J int null", "ErrType"}, {"aastore", "", "[LA; int int", "ErrType"}, {"aastore", "", "[LA; int top", "ErrType"}, {"lastore", "", "[J int long", " / /"}, {"lastore", "", "null int long", " / /"}, {"lastore", "", "[I int long", "ErrType"}, {"iastore", "", "[J int int", "ErrType"},
		{"arraylength", "", "null", " / int /"}, {"arraylength", "", "[[LA;", " / int /"}, {"arraylength", "", "A", "ErrType"}, {"arraylength", "", sample.Object, "ErrType"}, {"newarray 10", "", "int", " / [I /"}, {"newarray 11", "", "int", " / [J /"}, {"anewarray A", "", "int", " / [LA; /"}, {"anewarray [I", "", "long", "ErrType"}, {"new E", "", "int", " / int E /"},
		// What fits.
		{"getfield A.i I", "", "D", " / int /"}, {"getfield A.i I", "", "null", " / int /"}, {"getfield D.j J", "", "D", " / long /"}, {"getfield D.i I", "", "A", "ErrType"}, {"getfield A.c LC;", "", "C", "ErrType"}, {"getfield A.x LX;", "", "A", " / X /"}, {"putfield A.c LC;", "", "A B", " / /"}, {"putfield A.c LC;", "", "A null", " / /"}, {"putfield A.c LC;", "", "B A", "ErrType"}, {"putfield A.c LC;", "", "A E", "ErrType"}, {"putfield A.x LX;", "", "A null", "ErrType"}, {"putfield A.c LC;", "", "B", "ErrUnder"}, {"putfield A.c LC;", "", "long", "ErrType"},
		{"getstatic S.x LX;", "", "", " / X /"}, {"putstatic S.x LX;", "", "null", "ErrType"}, {"putstatic S.o Ljava/lang/Object;", "", "[[J", " / /"}, {"putstatic S.i I", "", "long", "ErrType"}, {"getstatic S.deep " + sample.Dims(17) + "J", "", "", " / " + sample.Dims(17) + "J /"}, {"putstatic S.deep " + sample.Dims(17) + "J", "", "null", "ErrType"},
		{"invokestatic S.mixed (I[JLA;J[LC;)[[I", "", "A int [J D long [LB;", " / A [[I /"}, {"invokestatic S.mixed (I[JLA;J[LC;)[[I", "", "[J D long [LB;", "ErrUnder"}, {"invokestatic S.mixed (I[JLA;J[LC;)[[I", "", "long [J D long [LB;", "ErrType"}, {"invokestatic S.mixed (I[JLA;J[LC;)[[I", "", "int [J D long [I", "ErrType"}, {"invokestatic S.none ()V", "", "", " / /"}, {"invokevirtual A.v (JLA;)LC;", "", "D long null", " / C /"}, {"invokevirtual A.v (JLA;)LC;", "", "C long null", "ErrType"}, {"invokespecial A.<init> (I)V", "", "null int", " / /"}, {"invokevirtual U.x (LX;)LX;", "", "U null", "ErrType"}, {"invokespecial A.w ()V", "", "[LA;", "ErrType"}, {"invokespecial java/lang/Object.<init> ()V", "", "int", " / /"},
		{"invokestatic Sys.out (I)V", "", "long", "ErrType"}, {"invokestatic Sys.outl (J)V", "", "int", "ErrType"}, {"invokestatic Sys.outl (J)V", "", "long", " / /"}, {"invokestatic Sys.in ()I", "", "null", " / null int /"},
	} {
		s := sample.Shape(x.locals, x.stack)
		m := meaning(sample.Link(append(sample.Single("static f ()V", 20, len(s.Locals), x.op+" | return"), sample.Odd())...))
		f := sample.Named(m.p, "T.f()V")
		l, e := typing.Step(m.p, f, 0, s)
		if len(l) > 1 || strings.HasPrefix(x.want, "Err") && (names()[e] != x.want || l != nil) || e == api.OK && strings.TrimSpace(sample.Text(l[0].Shape)) != strings.TrimSpace(x.want) {
			t.Error(x, l, e)
		}
		holdStep(t, m, f, 0, s)
	}
}

// names are errors' names.
func names() map[api.Errno]string {
	return map[api.Errno]string{api.OK: "OK", api.ErrArg: "ErrArg", api.ErrUnder: "ErrUnder", api.ErrType: "ErrType", api.ErrVar: "ErrVar", api.ErrOver: "ErrOver", api.ErrReturn: "ErrReturn", api.ErrFall: "ErrFall"}
}

// TestFirstError has two things each that are wrong, and limits; the places of the flows, where nothing is.
func TestFirstError(t *testing.T) {
	for _, x := range []struct {
		what          string
		stack         int
		code          string
		handler       string
		i             int
		locals, shape string
		want          string
	}{
		// A shape that may not be, ahead of all that the operation asks.
		{"()V", 0, "ireturn", "", 0, "int int int", "", "ErrArg"}, {"()V", 0, "ireturn", "", 0, "X int", "", "ErrArg"}, {"()V", 0, "ireturn", "", 0, "int int", "X", "ErrArg"}, {"()V", 0, "nop", "0", 0, "int", "", "ErrArg"}, {"()V", 0, "iload 0", "0", 0, "top X", "", "ErrArg"},
		// A return of another sort, ahead of what is taken; what is taken, ahead of what is left.
		{"()V", 0, "ireturn", "", 0, "int int", "", "ErrReturn"}, {"()V", 0, "lreturn", "", 0, "int int", "A", "ErrReturn"}, {"()V", 0, "areturn", "0", 0, "int int", "A A", "ErrReturn"}, {"()I", 0, "return", "", 0, "int int", "A A", "ErrReturn"}, {"()J", 0, "ireturn", "", 0, "int int", "int", "ErrReturn"}, {"()LX;", 0, "ireturn", "", 0, "int int", "int", "ErrReturn"}, {"()[I", 0, "lreturn", "", 0, "int int", "", "ErrReturn"}, {"()I", 0, "areturn", "", 0, "int int", "", "ErrReturn"}, {"()LA;", 0, "return", "", 0, "int int", "", "ErrReturn"},
		{"()I", 0, "ireturn", "0", 0, "int int", "", "ErrUnder"}, {"()J", 0, "lreturn", "0", 0, "int int", "long int", "ErrType"}, {"()LA;", 0, "areturn", "", 0, "int int", "C", "ErrType"}, {"()LX;", 9, "areturn", "", 0, "int int", "null", "ErrType"}, {"()LA;", 0, "areturn", "", 0, "int int", "D", "OK"}, {"()LA;", 0, "areturn", "", 0, "int int", "null", "OK"}, {"()[I", 0, "areturn", "", 0, "int int", "[I", "OK"}, {"()Ljava/lang/Object;", 0, "areturn", "", 0, "int int", "[I", "OK"}, {"()V", 0, "return", "", 0, "int int", "", "OK"},
		{"()I", 0, "ireturn", "", 0, "int int", "A int", "ErrOver"}, {"()I", 1, "ireturn", "", 0, "int int", "A int", "OK"}, {"()I", 1, "ireturn", "", 0, "int int", "long int", "ErrOver"}, {"()V", 1, "return", "", 0, "int int", "A A", "ErrOver"}, {"()V", 2, "return", "", 0, "int int", "A A", "OK"},
		// What is taken and locals, ahead of the stack's length; this, ahead of the end.
		{"()V", 0, "iadd", "0", 0, "int int", "int int int", "ErrOver"}, {"()V", 1, "iadd", "0", 0, "int int", "int int int", "ErrOver"}, {"()V", 2, "iadd", "0", 0, "int int", "int int int", "ErrFall"}, {"()V", 0, "iadd", "0", 0, "int int", "A A", "ErrType"}, {"()V", 0, "iload 0", "0", 0, "A A", "A A", "ErrVar"}, {"()V", 0, "iload 0", "0", 0, "int A", "", "ErrOver"}, {"()V", 1, "iload 0", "0", 0, "int A", "", "ErrFall"}, {"()V", 1, "lload 0", "", 0, "long A", "", "ErrOver"}, {"()V", 2, "lload 0 | return", "", 0, "long A", "", "1"}, {"()V", 1, "lload 0 | return", "", 0, "long A", "", "ErrOver"}, {"()V", 0, "astore 0", "0", 0, "A A", "A", "ErrFall"},
		// A shape that is too long to begin with.
		{"()V", 1, "pop | return", "", 0, "int int", "A A", "1"}, {"()V", 0, "pop | return", "", 0, "int int", "A", "1"}, {"()V", 1, "nop | return", "", 0, "int int", "A A", "ErrOver"}, {"()V", 2, "swap | return", "", 0, "int int", "A A", "1"}, {"()V", 2, "dup | return", "", 0, "int int", "A A", "ErrOver"}, {"()V", 2, "l2i | return", "", 0, "int int", "A long", "1"}, {"()V", 2, "i2l | return", "", 0, "int int", "A int", "ErrOver"},
		// The end, ahead of handlers for which there is no room.
		{"()V", 0, "nop", "0", 0, "int int", "", "ErrFall"}, {"()V", 0, "nop | return", "0", 0, "int int", "", "ErrOver"}, {"()V", 1, "nop | return", "0", 0, "int int", "", "1 0"}, {"()V", 0, "nop | return", "1", 0, "int int", "", "1"}, {"()V", 0, "nop | return", "1", 1, "int int", "", "ErrOver"}, {"()V", 1, "nop | return", "1", 1, "int int", "", "1"}, {"()V", 0, "nop | return", "", 1, "int int", "", "OK"}, {"()V", 0, "a: goto a", "0", 0, "int int", "", "ErrOver"}, {"()V", 0, "athrow", "0", 0, "int int", "E", "ErrOver"},
		// Ends of all sorts, and jumps.
		{"()V", 9, "a: ifeq a", "", 0, "int int", "int", "ErrFall"}, {"()V", 9, "a: ifnull a", "", 0, "int int", "int", "ErrType"}, {"()V", 9, "a: goto a", "", 0, "int int", "int", "0"}, {"()V", 9, "athrow", "", 0, "int int", "F", "OK"}, {"()V", 9, "athrow", "", 0, "int int", "null", "OK"}, {"()V", 9, "athrow", "", 0, "int int", "A", "ErrType"}, {"()V", 9, "athrow", "", 0, "int int", sample.Object, "ErrType"}, {"()V", 9, "athrow", "", 0, "int int", "", "ErrUnder"}, {"()V", 9, "new A", "", 0, "int int", "", "ErrFall"}, {"()V", 9, "invokestatic S.none ()V", "", 0, "int int", "", "ErrFall"},
		{"()V", 9, "nop | a: if_icmplt a | return", "", 1, "int int", "int int int", "1 2"}, {"()V", 9, "a: nop | if_acmpne a | return", "1", 1, "int int", "null [I", "0 2 1"}, {"()V", 9, "if_acmpeq a | a: return", "", 0, "int int", "E D", "1"}, {"()V", 9, "ifnonnull a | nop | a: return", "", 0, "int int", "E", "1 2"}, {"()V", 9, "ifle a | nop | a: return", "", 0, "int int", "long", "ErrType"}, {"()V", 9, "if_icmpge a | nop | a: return", "", 0, "int int", "long int", "ErrType"}, {"()V", 9, "if_acmpne a | nop | a: return", "", 0, "int int", "int A", "ErrType"},
	} {
		var handlers []string
		if x.handler != "" {
			handlers = []string{"h" + x.handler + " end h" + x.handler + " F"}
		}
		code := strings.Split(x.code, " | ")
		for i := range code {
			if x.handler == string(rune('0'+i)) {
				code[i] = "h" + x.handler + ": " + code[i]
			}
		}
		m := meaning(sample.Link(sample.Single("static f "+x.what, x.stack, 2, strings.Join(code, " | "), handlers...)...))
		f := sample.Named(m.p, "T.f"+x.what)
		s := sample.Shape(x.locals, x.shape)
		l, e := typing.Step(m.p, f, x.i, s)
		var to []string
		for _, x := range l {
			to = append(to, string(rune('0'+x.To)))
		}
		got := strings.Join(to, " ")
		if e != api.OK || got == "" {
			got = names()[e]
		}
		if got != x.want || e != api.OK && l != nil {
			t.Error(x, got)
		}
		holdStep(t, m, f, x.i, s)
	}
}

// TestFlows has the shapes of flows to handlers: the locals as they were, and what was caught alone.
func TestFlows(t *testing.T) {
	p := sample.Link(sample.Single("static f ()V", 3, 2, "a: istore 0 | b: pop | c: return | return", "a c b E", "a b a", "b end c F", "a end c java/lang/ArithmeticException")...)
	f := sample.Named(p, "T.f()V")
	l, e := typing.Step(p, f, 0, sample.Shape("A long", "[I long int"))
	if e != api.OK || len(l) != 4 {
		t.Fatal(l, e)
	}
	for i, x := range []struct {
		to   int
		want string
	}{{1, "int long / [I long /"}, {1, "A long / E /"}, {0, "A long / " + sample.Throwable + " /"}, {2, "A long / java/lang/ArithmeticException /"}} {
		if l[i].To != x.to || sample.Text(l[i].Shape) != x.want {
			t.Error(l[i], x)
		}
	}
}

// TestFlowsOwn has flows of all sorts: nothing of one is another one's, or the shape's.
func TestFlowsOwn(t *testing.T) {
	p := sample.Link(sample.Single("static f ()V", 3, 2, "a: istore 0 | b: ifnull d | c: return | nop | d: return", "a c b E", "a b a", "b end c F", "a end c java/lang/ArithmeticException")...)
	f := sample.Named(p, "T.f()V")
	for i, stack := range []string{"[I long int", "[I long null", "[I long", "[I long"} {
		s := sample.Shape("A long", stack)
		l, e := typing.Step(p, f, i, s)
		again, _ := typing.Step(p, f, i, s)
		if e != api.OK || len(l) == 0 {
			t.Error(i, l, e)
		}
		for k := range l {
			clearAll(l[k].Shape)
			if !sameFlows(l[k+1:], again[k+1:]) || !vtype.Same(s, sample.Shape("A long", stack)) {
				t.Error("shared", i, k)
			}
		}
		clearAll(s)
		if last, _ := typing.Step(p, f, i, sample.Shape("A long", stack)); !sameFlows(last, again) {
			t.Error("kept", i)
		}
	}
}

// clearAll writes to all of a shape, and behind its lists.
func clearAll(s api.Shape) {
	for _, l := range [][]api.Type{s.Locals[:cap(s.Locals)], s.Stack[:cap(s.Stack)]} {
		for i := range l {
			l[i] = api.Type{Kind: 99}
		}
	}
}

// TestOthers is P12.8: methods that have lost what they do are called all the same.
func TestOthers(t *testing.T) {
	m := meaning(world(t))
	r := numbers{5}
	f := sample.Named(m.p, "W3.every12()LA;")
	p := linker.Clone(m.p)
	for n := range p.Funcs {
		if n != f {
			p.Funcs[n].Ops, p.Funcs[n].Catches = nil, nil
		}
	}
	for i := range p.Funcs[f].Ops {
		for range 9 {
			s := api.Shape{Locals: r.locals(), Stack: m.taken(&r, f, i)}
			got, e := typing.Step(p, f, i, s)
			want, err := typing.Step(m.p, f, i, s)
			if e != err || !sameFlows(got, want) {
				t.Error(i, sample.Text(s), got, e)
			}
		}
		a, is := typing.Takes(p, f, i)
		b, was := typing.Takes(m.p, f, i)
		if is != was || !vtype.Same(api.Shape{Stack: a}, api.Shape{Stack: b}) {
			t.Error("Takes", i, a, b)
		}
	}
}
