package typing_test

import (
	"strconv"
	"strings"
	"sync"
	"testing"

	"tabard/api"
)

// family is classes that stand under one another, with fields, static fields and methods of all sorts of types; X is a class that there is not, and no array has 17 dimensions.
func family() []class {
	void := "return"
	return []class{
		{name: "C"}, {name: "B:C"}, {name: "D:A"}, {name: "E:" + throwable}, {name: "F:E"},
		{
			name:   "A:C",
			fields: []string{"i I", "j J", "c LC;", "ints [I", "cs [[LC;", "x LX;", "xs [LX;", "deep " + dims(17) + "I", "static sa LA;"},
			methods: []meth{
				{what: "<init> (I)V", locals: 2, code: void}, {what: "v (JLA;)LC;", stack: 1, locals: 4, code: "aconst_null | areturn"}, {what: "w ()V", locals: 1, code: void}, {what: "x (LX;)LX;", locals: 2, code: void},
			},
		},
		{
			name:   "S",
			fields: []string{"static i I", "static j J", "static a LA;", "static o Ljava/lang/Object;", "static longs [J", "static as [LA;", "static x LX;", "static xs [[LX;", "static deep " + dims(17) + "J"},
			methods: []meth{
				{what: "static none ()V", code: void}, {what: "static i (I)I", stack: 1, locals: 1, code: "iload 0 | ireturn"}, {what: "static j (JI)J", stack: 2, locals: 3, code: "lload 0 | lreturn"}, {what: "static mixed (I[JLA;J[LC;)[[I", locals: 6, code: void}, {what: "static x (I[LX;)[LX;", locals: 2, code: void},
				{what: "static main ()I", stack: 1, code: "iconst_0 | ireturn"},
			},
		},
	}
}

func dims(n int) string { return strings.Repeat("[", n) }

// all is a method's code that has each kind of operation, and each that names something in all ways. Only a return is at its end.
func all() string {
	return strings.Join([]string{
		"top: nop | aconst_null | iconst_1 | bipush 99 | ldc 70000 | lconst_1 | ldc2_w 5",
		"iload 0 | iload 3 | lload 0 | lload 2 | aload 1 | aload 3 | istore 0 | istore 1 | istore 3 | lstore 0 | lstore 1 | lstore 2 | astore 0 | astore 2 | astore 3 | iinc 0 1 | iinc 3 -1",
		"from: iaload | laload | aaload | iastore | lastore | aastore | pop | dup | dup_x1 | swap",
		"iadd | idiv | ixor | ladd | lrem | lor | ineg | lneg | ishl | iushr | lshl | lshr | i2l | l2i | i2b | i2c | lcmp",
		"ifeq top | if_icmplt end1 | if_acmpeq from | to: if_acmpne to | ifnull top | ifnonnull end1 | goto from",
		"ireturn | lreturn | areturn | return",
		"getstatic S.i I | getstatic S.j J | getstatic S.as [LA; | getstatic D.sa LA; | getstatic S.x LX; | getstatic S.xs [[LX; | getstatic S.deep " + dims(17) + "J",
		"putstatic S.i I | putstatic S.j J | putstatic S.a LA; | putstatic S.o Ljava/lang/Object; | putstatic S.longs [J | putstatic S.as [LA; | putstatic S.x LX; | putstatic S.deep " + dims(17) + "J",
		"getfield A.i I | getfield D.j J | getfield A.c LC; | getfield D.cs [[LC; | getfield A.x LX; | getfield A.deep " + dims(17) + "I",
		"putfield A.i I | putfield D.j J | putfield A.c LC; | putfield D.ints [I | putfield A.xs [LX;",
		"handler: invokestatic S.none ()V | invokestatic S.i (I)I | invokestatic S.j (JI)J | invokestatic S.mixed (I[JLA;J[LC;)[[I | invokestatic S.x (I[LX;)[LX;",
		"invokespecial A.<init> (I)V | invokespecial java/lang/Object.<init> ()V | invokespecial A.w ()V | invokevirtual A.v (JLA;)LC; | invokevirtual D.v (JLA;)LC; | invokevirtual A.x (LX;)LX;",
		"new A | new java/lang/Object | newarray 10 | newarray 11 | anewarray C | anewarray [J | arraylength",
		"end1: athrow | checkcast A | checkcast [[J | checkcast [LA; | instanceof C | instanceof [I",
		"invokestatic Sys.out (I)V | invokestatic Sys.outl (J)V | invokestatic Sys.in ()I | return",
	}, " | ")
}

// every is a method of all operations, with a stack, four locals, and what it returns. Some operations are covered by handlers, up to all three.
func every(ret string, stack int) meth {
	return meth{what: "static every" + strconv.Itoa(stack) + " ()" + ret, stack: stack, locals: 4, code: all(), handlers: []string{"from to handler E", "top handler to", "handler end handler F", "to end1 top java/lang/ArithmeticException"}}
}

// bare is every without handlers.
func bare(ret string, stack int) meth {
	m := every(ret, stack)
	m.what = strings.Replace(m.what, "every", "bare", 1)
	m.handlers = nil
	return m
}

// last is a class of methods that end in an operation each, of all kinds.
func last() class {
	c := class{name: "Last"}
	for s := range strings.SplitSeq(all(), " | ") {
		if _, rest, is := strings.Cut(s, ": "); is {
			s = rest
		}
		if name, _ := split(s, " ", ""); strings.HasPrefix(name, "if") || name == "goto" {
			s = name + " top"
		}
		c.methods = append(c.methods, meth{what: "static m" + strconv.Itoa(len(c.methods)) + " ()V", stack: 9, locals: 4, code: "top: nop | " + s})
	}
	return c
}

func world(t *testing.T) api.Program {
	t.Helper()
	l := family()
	for i, ret := range []string{"V", "I", "J", "LA;", "[I", "LX;", dims(17) + "I"} {
		l = append(l, class{name: "W" + strconv.Itoa(i), methods: []meth{every(ret, 12), bare(ret, 12)}})
	}
	var m []meth
	for stack := range 6 {
		m = append(m, every("J", stack), bare("I", stack))
	}
	l = append(l, class{name: "V", methods: m}, last())
	return linked(t, l...)
}

// sorts are types of all sorts, of the world's. Nobody writes to them.
var sorts = sync.OnceValue(func() []api.Type {
	return typesOf("top int long null java/lang/Object C A B D " + throwable + " E F java/lang/ArithmeticException [I [J [LA; [LC; [[I [[LC; [[LA; [Ljava/lang/Object; [L" + throwable + ";")
})
