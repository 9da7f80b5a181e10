package sample

import "strings"

// Family is classes that stand under one another, with fields and static fields of all sorts of types, and methods that keep the verifier's rules. X is a class that there is not, and no array has 17 dimensions.
func Family() []Class {
	void := "return"
	return []Class{
		{Name: "C"}, {Name: "B:C"}, {Name: "D:A"}, {Name: "E:" + Throwable}, {Name: "F:E"},
		{
			Name:   "A:C",
			Fields: []string{"i I", "j J", "c LC;", "ints [I", "cs [[LC;", "x LX;", "xs [LX;", "deep " + Dims(17) + "I", "static sa LA;"},
			Methods: []Method{
				{What: "<init> (I)V", Locals: 2, Code: void}, {What: "v (JLA;)LC;", Stack: 1, Locals: 4, Code: "aconst_null | areturn"}, {What: "w ()V", Locals: 1, Code: void},
			},
		},
		{
			Name:   "S",
			Fields: []string{"static i I", "static j J", "static a LA;", "static o Ljava/lang/Object;", "static longs [J", "static as [LA;", "static x LX;", "static xs [[LX;", "static deep " + Dims(17) + "J"},
			Methods: []Method{
				{What: "static none ()V", Code: void}, {What: "static i (I)I", Stack: 1, Locals: 1, Code: "iload 0 | ireturn"}, {What: "static j (JI)J", Stack: 2, Locals: 3, Code: "lload 0 | lreturn"}, {What: "static mixed (I[JLA;J[LC;)[[I", Stack: 1, Locals: 6, Code: "aconst_null | areturn"},
				{What: "static main ()I", Stack: 1, Code: "iconst_0 | ireturn"},
			},
		},
	}
}

// Odd is a class U whose methods take what there is not: the verifier refuses them.
func Odd() Class {
	return Class{Name: "U:A", Methods: []Method{{What: "x (LX;)LX;", Locals: 2, Code: "return"}, {What: "static y (I[LX;)[LX;", Locals: 2, Code: "return"}}}
}

// Single is the family, and a class T with one method.
func Single(what string, stack, locals int, code string, handlers ...string) []Class {
	return append(Family(), Class{Name: "T", Methods: []Method{{What: what, Stack: stack, Locals: locals, Code: code, Handlers: handlers}}})
}

// Dims is what stands ahead of the name of what an array of n dimensions has.
func Dims(n int) string { return strings.Repeat("[", n) }

// Right are methods of a class under A that keep the verifier's rules, each with what it shows.
func Right() []Method {
	return []Method{
		{What: "static loop ()I", Stack: 1, Locals: 2, Code: "iconst_5 | istore 0 | top: iload 0 | ifeq out | iload 0 | istore 1 | iinc 0 -1 | goto top | out: iload 0 | ireturn"},
		{What: "static caught (I)I", Stack: 2, Locals: 2, Code: "a: iconst_1 | iload 0 | idiv | b: ireturn | c: astore 1 | iconst_0 | ireturn", Handlers: []string{"a b c java/lang/ArithmeticException", "a end c"}},
		{What: "static joined (I)LC;", Stack: 1, Locals: 2, Code: "iload 0 | ifeq b | new A | astore 1 | goto c | b: new B | astore 1 | c: aload 1 | areturn"},
		{What: "static arrays (I)J", Stack: 4, Locals: 3, Code: "aconst_null | astore 1 | top: iload 0 | anewarray [J | astore 1 | aload 1 | iload 0 | iload 0 | newarray 11 | aastore | aload 1 | iload 0 | aaload | dup | astore 2 | iload 0 | laload | l2i | ifeq top | aload 2 | arraylength | i2l | lreturn"},
		{What: "static longs (JJ)J", Stack: 6, Locals: 6, Code: "lload 0 | lload 2 | ladd | lstore 1 | lload 1 | lconst_1 | lcmp | ifeq x | iconst_2 | istore 2 | x: ldc2_w 7 | iconst_3 | lshl | lstore 4 | lload 4 | lreturn"},
		{What: "static dead ()V", Stack: 2, Locals: 1, Code: "goto out | iadd | top: pop | iload 0 | goto top | out: return"},
		{What: "static thrown (LE;)V", Stack: 2, Locals: 2, Code: "a: aload 0 | athrow | c: athrow | b: pop | return", Handlers: []string{"a c b F", "a b c"}},
		{What: "static round ()V", Stack: 1, Locals: 1, Code: "a: new F | astore 0 | aconst_null | athrow | b: astore 0 | goto a", Handlers: []string{"a end b"}},
		{What: "v (JLA;)LC;", Stack: 5, Locals: 4, Code: "aload 0 | lload 1 | aload 3 | invokevirtual A.v (JLA;)LC; | dup | checkcast A | getfield A.j J | lstore 1 | areturn"},
		{What: "static swapped (LA;LB;)I", Stack: 4, Locals: 3, Code: "aload 0 | aload 1 | top: swap | dup_x1 | ifnull x | dup | instanceof B | ifeq y | x: pop | pop | iconst_0 | ireturn | y: swap | pop | iconst_1 | ireturn"},
		{What: "static alone ()V", Code: "return"}, {What: "static ever ()V", Locals: 3, Code: "a: goto a"},
		{What: "static stat ()V", Stack: 2, Locals: 0, Code: "getstatic S.as [LA; | iconst_0 | aaload | getfield A.c LC; | putstatic S.o Ljava/lang/Object; | return"},
	}
}
