package typing_test

import (
	"strings"
	"testing"

	"tabard/api"
	"tabard/linker"
	"tabard/sample"
	"tabard/typing"
	"tabard/vtype"
)

// TestTakes holds Takes of all operations against what is meant.
func TestTakes(t *testing.T) {
	m := meaning(world(t))
	for f, fn := range m.p.Funcs {
		for i := range fn.Ops {
			got, is := typing.Takes(m.p, f, i)
			want, may := m.takes(f, i)
			if is != may || !vtype.Same(api.Shape{Stack: got}, api.Shape{Stack: want}) {
				t.Error(linker.Name(m.p, f), i, got, is, "not", want, may)
			}
		}
	}
}

// TestTakesWords has operations with what they take, the topmost first.
func TestTakesWords(t *testing.T) {
	for ops, want := range map[string]string{
		"nop, aconst_null, iconst_0, lconst_0, iload 0, lload 0, aload 0, iinc 0 1, goto a, getstatic S.x LX;, new A, invokestatic S.none ()V, invokestatic Sys.in ()I": "",
		"istore 0, ineg, i2l, i2b, ifeq a, newarray 10, anewarray A, putstatic S.i I, invokestatic Sys.out (I)V, invokestatic S.i (I)I":                                 "int",
		"lstore 0, lneg, l2i, putstatic S.j J, invokestatic Sys.outl (J)V":                                                                                              "long",
		"iadd, ishl, if_icmpeq a": "int int", "ladd, lcmp": "long long", "lshl": "int long", "athrow": sample.Throwable, "putstatic S.x LX;": "X", "putstatic S.deep " + sample.Dims(17) + "J": sample.Dims(17) + "J",
		"getfield A.i I, getfield A.x LX;": "A", "getfield D.i I": "D", "putfield A.i I": "int A", "putfield D.j J": "long D", "putfield A.xs [LX;": "[LX; A",
		"invokestatic S.mixed (I[JLA;J[LC;)[[I": "[LC; long A [J int", "invokestatic S.j (JI)J": "int long", "invokevirtual D.v (JLA;)LC;": "A long A", "invokespecial A.<init> (I)V": "int A", "invokevirtual A.w ()V": "A", "invokestatic U.y (I[LX;)[LX;": "[LX; int",
		"pop, dup, dup_x1, swap, astore 0, if_acmpeq a, ifnull a, iaload, laload, aaload, iastore, lastore, aastore, arraylength, checkcast A, instanceof A, invokespecial java/lang/Object.<init> ()V": "none",
	} {
		for op := range strings.SplitSeq(ops, ", ") {
			p := sample.Link(append(sample.Single("static f ()V", 0, 2, "a: "+op+" | return"), sample.Odd())...)
			l, is := typing.Takes(p, sample.Named(p, "T.f()V"), 0)
			if is != (want != "none") || is && !vtype.Same(api.Shape{Stack: l}, sample.Shape("", want)) || !is && l != nil {
				t.Error(op, l, is)
			}
			// What is answered is nobody else's.
			kept := linker.Clone(p)
			clearAll(api.Shape{Stack: l})
			if !linker.Same(p, kept) {
				t.Error("shared", op)
			}
		}
	}
	// Of a return: the method's Ret, whatever that is, and of whatever sort the return is.
	for ret, want := range map[string]string{"V": "top", "I": "int", "J": "long", "LX;": "X", "[LA;": "[LA;", sample.Dims(17) + "I": sample.Dims(17) + "I"} {
		for op, takes := range map[string]string{"return": "", "ireturn": want, "lreturn": want, "areturn": want} {
			p := sample.Link(sample.Single("static f ()"+ret, 0, 0, op)...)
			if l, is := typing.Takes(p, sample.Named(p, "T.f()"+ret), 0); !is || !vtype.Same(api.Shape{Stack: l}, sample.Shape("", takes)) {
				t.Error(op, ret, l, is)
			}
		}
	}
}
