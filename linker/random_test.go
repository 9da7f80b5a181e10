package linker_test

import (
	"strconv"
	"strings"
	"testing"

	"tabard/api"
)

// instruction is mostly one that may be.
func instruction(r *numbers) string {
	if r.below(5) > 0 {
		return r.one("getfield A.x I", "putfield C.x I", "getfield B.y J", "getstatic A.s I", "putstatic A.y J", "getstatic C.x J", "putstatic Main.s I", "new A", "new C", "newarray 10", "anewarray B", "checkcast [LC;", "instanceof Main", "anewarray [J",
			"invokestatic Sys.out (I)V", "invokestatic Sys.in ()I", "invokespecial java/lang/Object.<init> ()V", "ldc 3", "ldc2_w 3", "iload_1", "goto 0", "ifne 0", "nop", "return")
	}
	class := r.one("A", "B", "C", "Main", object, throwable, "X", "Sys", "[I", "A", "B", "C")
	if r.below(12) > 0 {
		class = r.one("A", "B", "C", "Main", "A", "B", throwable)
	}
	typ := r.one(class, class, class, "[I", "[J", "[["+class, "[L"+class+";", "[[[J", "[[L"+class+";")
	field := class + "." + r.one("x I", "y J", "s I", "x J")
	method := class + "." + r.one("f ()V", "g (I)J", "<init> ()V", "h ()I", "main ()I")
	if r.below(5) == 0 {
		method = "Sys." + r.one("out (I)V", "outl (J)V", "in ()I", "i n()I", "out (J)V")
	}
	switch r.below(16) {
	case 0:
		return r.one("getstatic ", "putstatic ") + field
	case 1:
		return r.one("getfield ", "putfield ") + field
	case 2, 3:
		return r.one("invokestatic ", "invokestatic ", "invokespecial ", "invokevirtual ") + method
	case 4:
		return "new " + class
	case 5:
		return "newarray " + r.one("10", "11")
	case 6, 7, 8:
		return r.one("anewarray ", "checkcast ", "instanceof ") + typ
	case 9:
		return r.one("ldc ", "ldc2_w ") + strconv.Itoa(r.below(5)-2)
	case 10:
		return r.one("iload ", "lload ", "aload ", "istore ", "lstore ", "astore ") + strconv.Itoa(r.below(6+r.below(20)/18*4))
	case 11:
		return r.one("iload_", "lload_", "aload_", "istore_", "lstore_", "astore_") + strconv.Itoa(r.below(4))
	case 12:
		return "iinc " + strconv.Itoa(r.below(8)) + " " + strconv.Itoa(r.below(256)-128)
	case 13:
		return r.one("goto ", "ifeq ", "if_icmple ", "if_acmpne ", "ifnull ") + "0"
	case 14:
		return r.one("bipush ", "sipush ") + strconv.Itoa(r.below(256)-128)
	}
	return r.one("nop", "dup", "iadd", "lushr", "return", "athrow", "i2c", "lcmp", "iconst_m1", "lconst_1")
}

// randomMethod has a few instructions, whose jumps go to the beginning, and seldom a handler of the first one.
func randomMethod(r *numbers, what string) meth {
	l := []string{"nop"}
	for range r.below(4) {
		l = append(l, instruction(r))
	}
	var handlers []string
	if r.below(3) == 0 {
		handlers = append(handlers, "0 1 0 "+r.one("", throwable, "C", "", "C", "java/lang/ClassCastException", "A"))
	}
	return meth{what, 4, 2 + r.below(7), strings.Join(l, "; ") + "; return", handlers}
}

func randomClasses(r *numbers) []decl {
	l := []decl{of("Main", "static s I"), of(r.one("B:A", "B:A", "B:C", "B"), "y J"), of("C:"+r.one(throwable, throwable, object, "A"), "x I, static x J"), of("A", "x I, static s I, static y J")}
	for i := range l {
		for _, what := range []string{r.one("f ()V", "f ()V", "f ()V", "static f ()V"), r.one("static g (I)J", "static g (I)J", "static g (I)J", "g (I)J"), "<init> ()V", "h ()I"} {
			if r.below(3) > 0 {
				l[i].methods = append(l[i].methods, randomMethod(r, what))
			}
		}
	}
	if r.below(12) > 0 {
		l[0].methods = append(l[0].methods, randomMethod(r, "static main ()I"))
	}
	for i := range l {
		k := r.below(i + 1)
		l[i], l[k] = l[k], l[i]
	}
	return l
}

// TestRandom has classes that name each other: most sorts of errors, and programs between.
func TestRandom(t *testing.T) {
	r := numbers(9)
	got := map[api.Errno]int{}
	for range 8000 {
		p, _, e := held(t, files(t, randomClasses(&r)...)...)
		got[e]++
		if e == api.OK && got[e]%9 == 0 {
			for _, f := range p.Funcs {
				holdFunc(t, f)
			}
		}
		if t.Failed() {
			t.FailNow()
		}
	}
	for _, e := range []api.Errno{api.OK, api.ErrLocal, api.ErrResolve, api.ErrStatic, api.ErrMain, api.ErrCatch, api.ErrAlike} {
		if got[e] < 30 {
			t.Error(e, got[e])
		}
	}
}

// TestChangedBytes changes each byte of two files: whatever it is then, no call panics, and all is as it is meant.
func TestChangedBytes(t *testing.T) {
	l := files(t, of("A", "x I, static s I", fn("f ()V", "getfield A.x I; new B; iload 7; invokevirtual A.f ()V; return", "0 3 6 B")),
		of("B:"+throwable, ""), of("Main:A", "", fn("static main ()I", "ldc 7; putstatic A.s I; invokestatic Sys.in ()I; checkcast [LA;; ifeq 0; return")))
	taken := 0
	for i := range l {
		for at := range l[i] {
			kept := l[i][at]
			for _, x := range []byte{0, 1, 2, 3, 5, 7, 8, 9, 10, 12, 21, 42, 178, 255, kept + 1, kept - 1, kept ^ 2, kept ^ 4, kept ^ 8, kept ^ 16} {
				l[i][at] = x
				if _, _, e := held(t, l...); e == api.OK {
					taken++
				}
			}
			l[i][at] = kept
		}
		if t.Failed() {
			t.FailNow()
		}
	}
	if taken < 300 {
		t.Error(taken)
	}
}
