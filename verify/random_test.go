package verify_test

import (
	"strconv"
	"strings"

	"tabard/api"
	"tabard/sample"
)

// numbers makes up methods.
type numbers struct{ sample.Numbers }

func (r *numbers) one(l ...string) string { return l[r.Below(len(l))] }

// local is one of four locals that have ints, or of four that have references, or one of longs; now and then any.
func (r *numbers) local(sort string) string {
	n := map[string]int{"int": r.Below(3), "ref": 3 + r.Below(4), "long": 7 + r.Below(2)}[sort]
	if r.Below(60) == 0 {
		n = r.Below(9)
	}
	return strconv.Itoa(n)
}

// statement is instructions that mostly leave the stack as it was.
func (r *numbers) statement(labels int) string {
	i, k, a, b, j := r.local("int"), r.local("int"), r.local("ref"), r.local("ref"), r.local("long")
	to := "s" + strconv.Itoa(r.Below(labels))
	switch r.Below(40) {
	case 0:
		return "return"
	case 1, 2, 3:
		return "goto " + to
	case 4, 5, 6, 7:
		return "iload " + i + " | ifeq " + to
	case 8, 9, 10:
		return "aload " + a + " | ifnull " + to
	case 11:
		return "aload " + a + " | aload " + b + " | if_acmpeq " + to
	case 12:
		return r.one("iconst_1 | goto "+to, "pop", "iconst_0", "aconst_null | aconst_null | ifnull "+to, "aload "+a+" | athrow")
	case 13, 14, 15, 16, 17, 18, 19:
		return "new " + r.one("A", "B", "C", "D", "E", "F", "S") + " | astore " + a
	case 20, 21, 22:
		return "aload " + a + " | astore " + b
	case 23, 24:
		return "aconst_null | astore " + a
	case 25:
		return "aload " + a + " | " + r.one("checkcast", "instanceof") + " " + r.one("A", "B", "[I", "[[LA;") + " | " + r.one("pop", "pop", "astore "+b)
	case 26:
		return "iload " + i + " | " + r.one("newarray 10", "newarray 11", "anewarray A", "anewarray B", "anewarray [LA;", "anewarray [LB;", "anewarray [I") + " | astore " + a
	case 27:
		return "aload " + a + " | iconst_0 | " + r.one("aaload | astore "+b, "aaload | astore "+b, "iaload | istore "+i)
	case 28:
		return "aload " + a + " | " + r.one("getfield A.i I | istore "+i, "getfield A.c LC; | astore "+b, "invokevirtual A.w ()V", "getfield A.x LX; | pop")
	case 29, 30:
		return "lconst_1 | lstore " + j
	case 31, 32:
		return "lload " + j + " | l2i | istore " + i
	case 33:
		return "iinc " + i + " 1"
	case 34, 35:
		return "iload " + i + " | istore " + k
	}
	return "iconst_3 | istore " + i
}

// method is a method out of statements, most of which have locals with what they ask for.
func (r *numbers) method(n int) sample.Method {
	m := sample.Method{What: "static m" + strconv.Itoa(n) + " (IJLA;)V", Stack: 1 + r.Below(9), Locals: 11}
	labels := 2 + r.Below(12)
	l := []string{"iload 0 | istore 1 | iconst_0 | istore 2 | aload 3 | astore 4 | new B | astore 5 | aconst_null | astore 6 | lconst_0 | lstore 7 | lconst_1 | lstore 9"}
	if r.Below(9) == 0 {
		l[0] = "nop"
	}
	for i := range labels {
		l = append(l, "s"+strconv.Itoa(i)+": "+r.statement(labels))
	}
	l = append(l, "return")
	for i := range r.Below(4) {
		h := "h" + strconv.Itoa(i)
		from, to := r.Below(labels), r.Below(labels)
		if from != to {
			m.Handlers = append(m.Handlers, strings.Join([]string{"s" + strconv.Itoa(min(from, to)), "s" + strconv.Itoa(max(from, to)), h, r.one("E", "F", sample.Throwable, "java/lang/ArithmeticException", "")}, " "))
		}
		l = append(l, h+": "+r.one("astore "+r.local("ref"), "pop")+" | "+r.one("return", "goto s"+strconv.Itoa(r.Below(labels))))
	}
	m.Code = strings.Join(l, " | ")
	return m
}

// program is the family and a class of methods that were made up.
func (r *numbers) program(n int) api.Program {
	m := sample.Class{Name: "M:A"}
	for i := range n {
		m.Methods = append(m.Methods, r.method(i))
	}
	return sample.Link(append(sample.Family(), m)...)
}
