package typing_test

import (
	"strconv"
	"strings"
	"sync"
	"testing"

	"tabard/api"
	"tabard/sample"
)

// all is a method's code that has each kind of operation, and each that names something in all ways. Only a return is at its end.
func all() string {
	return strings.Join([]string{
		"top: nop | aconst_null | iconst_1 | bipush 99 | ldc 70000 | lconst_1 | ldc2_w 5",
		"iload 0 | iload 3 | lload 0 | lload 2 | aload 1 | aload 3 | istore 0 | istore 1 | istore 3 | lstore 0 | lstore 1 | lstore 2 | astore 0 | astore 2 | astore 3 | iinc 0 1 | iinc 3 -1",
		"from: iaload | laload | aaload | iastore | lastore | aastore | pop | dup | dup_x1 | swap",
		"iadd | idiv | ixor | ladd | lrem | lor | ineg | lneg | ishl | iushr | lshl | lshr | i2l | l2i | i2b | i2c | lcmp",
		"ifeq top | if_icmplt end1 | if_acmpeq from | to: if_acmpne to | ifnull top | ifnonnull end1 | goto from",
		"ireturn | lreturn | areturn | return",
		"getstatic S.i I | getstatic S.j J | getstatic S.as [LA; | getstatic D.sa LA; | getstatic S.x LX; | getstatic S.xs [[LX; | getstatic S.deep " + sample.Dims(17) + "J",
		"putstatic S.i I | putstatic S.j J | putstatic S.a LA; | putstatic S.o Ljava/lang/Object; | putstatic S.longs [J | putstatic S.as [LA; | putstatic S.x LX; | putstatic S.deep " + sample.Dims(17) + "J",
		"getfield A.i I | getfield D.j J | getfield A.c LC; | getfield D.cs [[LC; | getfield A.x LX; | getfield A.deep " + sample.Dims(17) + "I",
		"putfield A.i I | putfield D.j J | putfield A.c LC; | putfield D.ints [I | putfield A.xs [LX;",
		"handler: invokestatic S.none ()V | invokestatic S.i (I)I | invokestatic S.j (JI)J | invokestatic S.mixed (I[JLA;J[LC;)[[I | invokestatic U.y (I[LX;)[LX;",
		"invokespecial A.<init> (I)V | invokespecial java/lang/Object.<init> ()V | invokespecial A.w ()V | invokevirtual A.v (JLA;)LC; | invokevirtual D.v (JLA;)LC; | invokevirtual U.x (LX;)LX;",
		"new A | new java/lang/Object | newarray 10 | newarray 11 | anewarray C | anewarray [J | arraylength",
		"end1: athrow | checkcast A | checkcast [[J | checkcast [LA; | instanceof C | instanceof [I",
		"invokestatic Sys.out (I)V | invokestatic Sys.outl (J)V | invokestatic Sys.in ()I | return",
	}, " | ")
}

// every is a method of all operations, with a stack, four locals, and what it returns. Some operations are covered by handlers, up to all three.
func every(ret string, stack int) sample.Method {
	return sample.Method{What: "static every" + strconv.Itoa(stack) + " ()" + ret, Stack: stack, Locals: 4, Code: all(), Handlers: []string{"from to handler E", "top handler to", "handler end handler F", "to end1 top java/lang/ArithmeticException"}}
}

// bare is every without handlers.
func bare(ret string, stack int) sample.Method {
	m := every(ret, stack)
	m.What = strings.Replace(m.What, "every", "bare", 1)
	m.Handlers = nil
	return m
}

// last is a class of methods that end in an operation each, of all kinds.
func last() sample.Class {
	c := sample.Class{Name: "Last"}
	for s := range strings.SplitSeq(all(), " | ") {
		if _, rest, is := strings.Cut(s, ": "); is {
			s = rest
		}
		if name, _, _ := strings.Cut(s, " "); strings.HasPrefix(name, "if") || name == "goto" {
			s = name + " top"
		}
		c.Methods = append(c.Methods, sample.Method{What: "static m" + strconv.Itoa(len(c.Methods)) + " ()V", Stack: 9, Locals: 4, Code: "top: nop | " + s})
	}
	return c
}

func world(t *testing.T) api.Program {
	t.Helper()
	l := append(sample.Family(), sample.Odd())
	for i, ret := range []string{"V", "I", "J", "LA;", "[I", "LX;", sample.Dims(17) + "I"} {
		l = append(l, sample.Class{Name: "W" + strconv.Itoa(i), Methods: []sample.Method{every(ret, 12), bare(ret, 12)}})
	}
	var m []sample.Method
	for stack := range 6 {
		m = append(m, every("J", stack), bare("I", stack))
	}
	l = append(l, sample.Class{Name: "V", Methods: m}, last())
	return sample.Link(l...)
}

// sorts are types of all sorts, of the world's. Nobody writes to them.
var sorts = sync.OnceValue(func() []api.Type {
	return sample.Types("top int long null java/lang/Object C A B D " + sample.Throwable + " E F java/lang/ArithmeticException [I [J [LA; [LC; [[I [[LC; [[LA; [Ljava/lang/Object; [L" + sample.Throwable + ";")
})
