package linker_test

import (
	"strconv"
	"strings"
	"testing"

	"tabard/api"
	"tabard/opcode"
)

// world are classes of all sorts for a main to name; Main is 8.
func world(main ...meth) []decl {
	main = append(main, fn("static main ()I", "iconst_3; ireturn"))
	return []decl{
		of("Main", "", main...), // methods 0 to len(main) - 1
		of("B:A", "y I, static t J", fn("h ()V", "return"), fn("f ()V", "return"), fn("<init> (I)V", "return")),
		of("A", "x I, static s I, z [LA;", fn("f ()V", "return"), fn("static g (J)V", "return"), fn("<init> ()V", "return"), fn("i (LA;I)LA;", "aload_0; areturn")),
		of("E:"+throwable, ""), of("p/Q", ""), of("C:B", ""), of("I", ""),
	}
}

// each is instructions, and what they become but for their addresses.
func each() []struct {
	code string
	op   api.Op
} {
	return []struct {
		code string
		op   api.Op
	}{
		{"nop", api.Op{Kind: 1}}, {"aconst_null", api.Op{Kind: 2}},
		{"iconst_m1", api.Op{Kind: 3, N: -1}}, {"iconst_0", api.Op{Kind: 3}}, {"iconst_1", api.Op{Kind: 3, N: 1}}, {"iconst_2", api.Op{Kind: 3, N: 2}}, {"iconst_3", api.Op{Kind: 3, N: 3}}, {"iconst_4", api.Op{Kind: 3, N: 4}}, {"iconst_5", api.Op{Kind: 3, N: 5}},
		{"lconst_0", api.Op{Kind: 4}}, {"lconst_1", api.Op{Kind: 4, N: 1}},
		{"bipush -128", api.Op{Kind: 3, N: -128}}, {"bipush 127", api.Op{Kind: 3, N: 127}}, {"sipush -32768", api.Op{Kind: 3, N: -32768}}, {"sipush 32767", api.Op{Kind: 3, N: 32767}},
		{"ldc 7", api.Op{Kind: 3, N: 7}}, {"ldc -2147483648", api.Op{Kind: 3, N: -1 << 31}}, {"ldc 2147483647", api.Op{Kind: 3, N: 1<<31 - 1}},
		{"ldc2_w 7", api.Op{Kind: 4, N: 7}}, {"ldc2_w -9223372036854775808", api.Op{Kind: 4, N: -1 << 63}}, {"ldc2_w 9223372036854775807", api.Op{Kind: 4, N: 1<<63 - 1}},
		{"iload 0", api.Op{Kind: 5}}, {"iload 7", api.Op{Kind: 5, A: 7}}, {"lload 0", api.Op{Kind: 6}}, {"lload 6", api.Op{Kind: 6, A: 6}}, {"aload 4", api.Op{Kind: 7, A: 4}},
		{"iload_0", api.Op{Kind: 5}}, {"iload_1", api.Op{Kind: 5, A: 1}}, {"iload_2", api.Op{Kind: 5, A: 2}}, {"iload_3", api.Op{Kind: 5, A: 3}},
		{"lload_0", api.Op{Kind: 6}}, {"lload_1", api.Op{Kind: 6, A: 1}}, {"lload_2", api.Op{Kind: 6, A: 2}}, {"lload_3", api.Op{Kind: 6, A: 3}},
		{"aload_0", api.Op{Kind: 7}}, {"aload_1", api.Op{Kind: 7, A: 1}}, {"aload_2", api.Op{Kind: 7, A: 2}}, {"aload_3", api.Op{Kind: 7, A: 3}},
		{"istore 5", api.Op{Kind: 8, A: 5}}, {"lstore 6", api.Op{Kind: 9, A: 6}}, {"astore 7", api.Op{Kind: 10, A: 7}},
		{"istore_0", api.Op{Kind: 8}}, {"istore_1", api.Op{Kind: 8, A: 1}}, {"istore_2", api.Op{Kind: 8, A: 2}}, {"istore_3", api.Op{Kind: 8, A: 3}},
		{"lstore_0", api.Op{Kind: 9}}, {"lstore_1", api.Op{Kind: 9, A: 1}}, {"lstore_2", api.Op{Kind: 9, A: 2}}, {"lstore_3", api.Op{Kind: 9, A: 3}},
		{"astore_0", api.Op{Kind: 10}}, {"astore_1", api.Op{Kind: 10, A: 1}}, {"astore_2", api.Op{Kind: 10, A: 2}}, {"astore_3", api.Op{Kind: 10, A: 3}},
		{"iaload", api.Op{Kind: 11}}, {"laload", api.Op{Kind: 12}}, {"aaload", api.Op{Kind: 13}}, {"iastore", api.Op{Kind: 14}}, {"lastore", api.Op{Kind: 15}}, {"aastore", api.Op{Kind: 16}},
		{"pop", api.Op{Kind: 17}}, {"dup", api.Op{Kind: 18}}, {"dup_x1", api.Op{Kind: 19}}, {"swap", api.Op{Kind: 20}},
		{"iadd", api.Op{Kind: 21, A: 1}}, {"isub", api.Op{Kind: 21, A: 2}}, {"imul", api.Op{Kind: 21, A: 3}}, {"idiv", api.Op{Kind: 21, A: 4}}, {"irem", api.Op{Kind: 21, A: 5}}, {"iand", api.Op{Kind: 21, A: 6}}, {"ior", api.Op{Kind: 21, A: 7}}, {"ixor", api.Op{Kind: 21, A: 8}},
		{"ladd", api.Op{Kind: 22, A: 1}}, {"lsub", api.Op{Kind: 22, A: 2}}, {"lmul", api.Op{Kind: 22, A: 3}}, {"ldiv", api.Op{Kind: 22, A: 4}}, {"lrem", api.Op{Kind: 22, A: 5}}, {"land", api.Op{Kind: 22, A: 6}}, {"lor", api.Op{Kind: 22, A: 7}}, {"lxor", api.Op{Kind: 22, A: 8}},
		{"ineg", api.Op{Kind: 23}}, {"lneg", api.Op{Kind: 24}},
		{"ishl", api.Op{Kind: 25, A: 9}}, {"ishr", api.Op{Kind: 25, A: 10}}, {"iushr", api.Op{Kind: 25, A: 11}}, {"lshl", api.Op{Kind: 26, A: 9}}, {"lshr", api.Op{Kind: 26, A: 10}}, {"lushr", api.Op{Kind: 26, A: 11}},
		{"iinc 0 1", api.Op{Kind: 27, N: 1}}, {"iinc 7 -128", api.Op{Kind: 27, A: 7, N: -128}}, {"iinc 3 127", api.Op{Kind: 27, A: 3, N: 127}}, {"iinc 2 0", api.Op{Kind: 27, A: 2}},
		{"i2l", api.Op{Kind: 28}}, {"l2i", api.Op{Kind: 29}}, {"i2b", api.Op{Kind: 30, A: 1}}, {"i2c", api.Op{Kind: 30, A: 2}}, {"i2s", api.Op{Kind: 30, A: 3}}, {"lcmp", api.Op{Kind: 31}},
		{"ifeq 0", api.Op{Kind: 32, A: 1}}, {"ifne 1", api.Op{Kind: 32, A: 2, To: 1}}, {"iflt 2", api.Op{Kind: 32, A: 3, To: 2}}, {"ifge 0", api.Op{Kind: 32, A: 4}}, {"ifgt 1", api.Op{Kind: 32, A: 5, To: 1}}, {"ifle 2", api.Op{Kind: 32, A: 6, To: 2}},
		{"if_icmpeq 0", api.Op{Kind: 33, A: 1}}, {"if_icmpne 1", api.Op{Kind: 33, A: 2, To: 1}}, {"if_icmplt 2", api.Op{Kind: 33, A: 3, To: 2}}, {"if_icmpge 0", api.Op{Kind: 33, A: 4}}, {"if_icmpgt 1", api.Op{Kind: 33, A: 5, To: 1}}, {"if_icmple 2", api.Op{Kind: 33, A: 6, To: 2}},
		{"if_acmpeq 1", api.Op{Kind: 34, A: 1, To: 1}}, {"if_acmpne 2", api.Op{Kind: 34, A: 2, To: 2}}, {"ifnull 1", api.Op{Kind: 35, A: 1, To: 1}}, {"ifnonnull 2", api.Op{Kind: 35, A: 2, To: 2}}, {"goto 1", api.Op{Kind: 36, To: 1}},
		{"ireturn", api.Op{Kind: 37, A: 1}}, {"lreturn", api.Op{Kind: 37, A: 2}}, {"areturn", api.Op{Kind: 37, A: 3}}, {"return", api.Op{Kind: 37}},
		{"getstatic A.s I", api.Op{Kind: 38, A: 1}}, {"getstatic B.t J", api.Op{Kind: 38}}, {"getstatic C.s I", api.Op{Kind: 38, A: 1}}, {"putstatic B.t J", api.Op{Kind: 39}}, {"putstatic A.s I", api.Op{Kind: 39, A: 1}},
		{"getfield A.x I", api.Op{Kind: 40, N: 10}}, {"getfield C.z [LA;", api.Op{Kind: 40, A: 1, N: 13}}, {"getfield B.y I", api.Op{Kind: 40, A: 2, N: 9}}, {"putfield C.y I", api.Op{Kind: 41, A: 2, N: 13}}, {"putfield B.x I", api.Op{Kind: 41, N: 9}},
		{"invokestatic A.g (J)V", api.Op{Kind: 42, A: 6}}, {"invokestatic C.g (J)V", api.Op{Kind: 42, A: 6}}, {"invokestatic Main.main ()I", api.Op{Kind: 42, A: 1}}, {"invokestatic Main.each ()V", api.Op{Kind: 42}},
		{"invokespecial A.<init> ()V", api.Op{Kind: 43, A: 7}}, {"invokespecial B.<init> (I)V", api.Op{Kind: 43, A: 4}}, {"invokespecial A.f ()V", api.Op{Kind: 43, A: 5}}, {"invokespecial C.f ()V", api.Op{Kind: 43, A: 3}}, {"invokespecial java/lang/Object.<init> ()V", api.Op{Kind: 17}}, {"invokespecial java/lang/ArrayStoreException.<init> ()V", api.Op{Kind: 17}},
		{"invokevirtual A.f ()V", api.Op{Kind: 44, A: 5}}, {"invokevirtual B.f ()V", api.Op{Kind: 44, A: 3}}, {"invokevirtual C.h ()V", api.Op{Kind: 44, A: 2}}, {"invokevirtual C.i (LA;I)LA;", api.Op{Kind: 44, A: 8}},
		{"new A", api.Op{Kind: 45, A: 10}}, {"new java/lang/Object", api.Op{Kind: 45}}, {"new java/lang/ArrayStoreException", api.Op{Kind: 45, A: 7}}, {"new p/Q", api.Op{Kind: 45, A: 12}}, {"new I", api.Op{Kind: 45, A: 14}},
		{"newarray 11", api.Op{Kind: 46}}, {"newarray 10", api.Op{Kind: 46, A: 1}}, {"anewarray A", api.Op{Kind: 46, A: 2}}, {"anewarray [I", api.Op{Kind: 46, A: 3}}, {"anewarray I", api.Op{Kind: 46, A: 4}}, {"newarray 11", api.Op{Kind: 46}}, {"anewarray p/Q", api.Op{Kind: 46, A: 5}},
		{"arraylength", api.Op{Kind: 47}}, {"athrow", api.Op{Kind: 48}},
		{"checkcast A", api.Op{Kind: 49, A: 6}}, {"checkcast [LA;", api.Op{Kind: 49, A: 2}}, {"checkcast [[I", api.Op{Kind: 49, A: 3}}, {"checkcast [[Lp/Q;", api.Op{Kind: 49, A: 7}}, {"checkcast I", api.Op{Kind: 49, A: 8}},
		{"instanceof A", api.Op{Kind: 50, A: 6}}, {"instanceof java/lang/Object", api.Op{Kind: 50, A: 9}}, {"instanceof [I", api.Op{Kind: 50, A: 1}},
		{"invokestatic Sys.out (I)V", api.Op{Kind: 51}}, {"invokestatic Sys.outl (J)V", api.Op{Kind: 52}}, {"invokestatic Sys.in ()I", api.Op{Kind: 53}}, {"areturn", api.Op{Kind: 37, A: 3}},
	}
}

// TestEach has each opcode.
func TestEach(t *testing.T) {
	l := []string{"nop", "nop", "nop"} // that jumps may go to
	seen := map[string]bool{}
	for _, x := range each() {
		l = append(l, x.code)
		name, _, _ := strings.Cut(x.code, " ")
		seen[name] = true
	}
	for op := range 256 {
		if name := opcode.Name(op); name != "" && !seen[name] {
			t.Error("not asked", name)
		}
	}
	p := linked(t, world(fn("static each ()V", strings.Join(l, "; ")))...)
	ops := p.Funcs[0].Ops
	if len(ops) != len(l) {
		t.Fatal(len(ops))
	}
	for i, x := range each() {
		op := ops[i+3]
		x.op.At = op.At
		if op != x.op {
			t.Error(x.code, op, "not", x.op)
		}
	}
	want := []string{"[J", "[I", "[LA;", "[[I", "[LI;", "[Lp/Q;", "A", "[[Lp/Q;", "I", "java/lang/Object"}
	for n, x := range p.Types {
		if len(p.Types) != len(want) || x != (api.Type{Kind: api.TyRef, Name: want[n]}) {
			t.Error("Types", n, x)
		}
	}
}

// TestAddresses has instructions of all lengths.
func TestAddresses(t *testing.T) {
	p := linked(t, world(fn("static a ()V", "bipush 1; nop; sipush 2; iinc 1 1; goto 2; new A; return"))...)
	want := []int{0, 2, 3, 6, 9, 12, 15}
	for i, op := range p.Funcs[0].Ops {
		if op.At != want[i] {
			t.Error(i, op)
		}
	}
}

// TestLocals has all locals around the last one that there is.
func TestLocals(t *testing.T) {
	for _, most := range []int{0, 1, 2, 3, 4, 5, 8, 62, 63, 64} {
		for _, x := range []struct {
			name string
			size int
		}{
			{"iload ", 1}, {"lload ", 2}, {"aload ", 1}, {"istore ", 1}, {"lstore ", 2}, {"astore ", 1}, {"iload_", 1}, {"lload_", 2}, {"aload_", 1}, {"istore_", 1}, {"lstore_", 2}, {"astore_", 1}, {"iinc ", 1},
		} {
			for _, local := range []int{0, 1, 2, 3, most - 2, most - 1, most, most + 1, 63, 64, 127, 128, 255} {
				if local < 0 || strings.HasSuffix(x.name, "_") && local > 3 {
					continue
				}
				code := x.name + strconv.Itoa(local)
				if x.name == "iinc " {
					code += " 1"
				}
				m := meth{"static f ()V", 0, most, code + "; return", nil}
				if local+x.size <= most {
					if p := linked(t, world(m)...); p.Funcs[0].Ops[0].A != local {
						t.Error(code, p.Funcs[0])
					}
				} else {
					refused(t, 0, api.ErrLocal, world(m)...)
				}
			}
		}
	}
}

// TestLocalsOfEach has alike instructions in methods of one file: how many locals there are, each has for itself.
func TestLocalsOfEach(t *testing.T) {
	for _, code := range []string{"iload 5", "lload 4", "astore 5", "iinc 5 1", "lstore_3", "iload_3"} {
		wide, narrow := meth{"static f ()V", 1, 6, code + "; return", nil}, meth{"static g ()V", 1, 3, code + "; return", nil}
		refused(t, 0, api.ErrLocal, world(wide, narrow)...)
		narrow.locals = 6
		linked(t, world(wide, narrow)...)
	}
}

// TestRefused has instructions that may not be, alone.
func TestRefused(t *testing.T) {
	long := strings.Repeat("a", 252)
	for _, x := range []struct {
		e    api.Errno
		code string
	}{
		{api.ErrConst, "ldc long: 7"}, {api.ErrConst, "ldc text: 7"}, {api.ErrConst, "ldc class: A"}, {api.ErrConst, "ldc #: 0"}, {api.ErrConst, "ldc #: 255"}, {api.ErrConst, "ldc field: A.x I"},
		{api.ErrConst, "ldc2_w int: 7"}, {api.ErrConst, "ldc2_w text: 7"}, {api.ErrConst, "ldc2_w #: 0"}, {api.ErrConst, "ldc2_w #: 255"}, {api.ErrConst, "ldc2_w #: 65535"}, {api.ErrConst, "ldc2_w class: A"},
		{api.ErrResolve, "getstatic #: 0"}, {api.ErrResolve, "getstatic #: 65535"}, {api.ErrResolve, "putstatic method: A.s I"}, {api.ErrResolve, "getfield class: A"}, {api.ErrResolve, "putfield method: A.x I"}, {api.ErrResolve, "getfield int: 7"},
		{api.ErrResolve, "getfield X.x I"}, {api.ErrResolve, "getfield Sys.x I"}, {api.ErrResolve, "getfield [LA;.x I"}, {api.ErrResolve, "getfield A.w I"}, {api.ErrResolve, "getfield A.x J"}, {api.ErrResolve, "getfield A.y I"}, {api.ErrResolve, "getfield java/lang/Object.x I"}, {api.ErrResolve, "getfield LA;.x I"}, {api.ErrResolve, "getfield A.x I "}, {api.ErrResolve, "getfield A.f ()V"},
		{api.ErrResolve, "getstatic X.s I"}, {api.ErrResolve, "getstatic A.s J"}, {api.ErrResolve, "getstatic A.t J"}, {api.ErrResolve, "putstatic Sys.s I"}, {api.ErrResolve, "putfield A.y I"}, {api.ErrResolve, "putstatic B.u I"},
		{api.ErrStatic, "getstatic A.x I"}, {api.ErrStatic, "putstatic C.x I"}, {api.ErrStatic, "getfield A.s I"}, {api.ErrStatic, "putfield C.s I"}, {api.ErrStatic, "getfield B.t J"}, {api.ErrStatic, "putstatic B.z [LA;"},
		{api.ErrResolve, "invokestatic #: 0"}, {api.ErrResolve, "invokevirtual #: 65535"}, {api.ErrResolve, "invokespecial field: A.f ()V"}, {api.ErrResolve, "invokestatic field: A.g (J)V"}, {api.ErrResolve, "invokestatic field: Sys.out (I)V"}, {api.ErrResolve, "invokevirtual class: A"},
		{api.ErrResolve, "invokestatic X.f ()V"}, {api.ErrResolve, "invokevirtual [LA;.f ()V"}, {api.ErrResolve, "invokevirtual A.f ()I"}, {api.ErrResolve, "invokevirtual A.h ()V"}, {api.ErrResolve, "invokestatic B.main ()I"}, {api.ErrResolve, "invokestatic A.g (I)V"}, {api.ErrResolve, "invokevirtual java/lang/Object.f ()V"},
		{api.ErrStatic, "invokevirtual A.g (J)V"}, {api.ErrStatic, "invokespecial A.g (J)V"}, {api.ErrStatic, "invokespecial C.g (J)V"}, {api.ErrStatic, "invokestatic A.f ()V"}, {api.ErrStatic, "invokestatic C.h ()V"}, {api.ErrStatic, "invokevirtual Main.main ()I"},
		{api.ErrStatic, "invokevirtual A.<init> ()V"}, {api.ErrStatic, "invokestatic A.<init> ()V"}, {api.ErrStatic, "invokevirtual B.<init> (I)V"}, {api.ErrStatic, "invokestatic B.<init> (I)V"},
		{api.ErrResolve, "invokespecial B.<init> ()V"}, {api.ErrResolve, "invokespecial C.<init> (I)V"}, {api.ErrResolve, "invokespecial A.<init> (I)V"}, {api.ErrResolve, "invokespecial p/Q.<init> ()V"}, {api.ErrResolve, "invokevirtual p/Q.<init> ()V"},
		{api.ErrResolve, "invokespecial java/lang/Object.<init> (I)V"}, {api.ErrResolve, "invokespecial java/lang/Object.<init> ()I"}, {api.ErrResolve, "invokevirtual java/lang/Object.<init> ()V"}, {api.ErrResolve, "invokestatic java/lang/Object.<init> ()V"}, {api.ErrResolve, "invokespecial java/lang/Object.init ()V"}, {api.ErrResolve, "invokespecial java/lang/Objects.<init> ()V"},
		{api.ErrStatic, "invokevirtual Sys.out (I)V"}, {api.ErrStatic, "invokespecial Sys.outl (J)V"}, {api.ErrStatic, "invokespecial Sys.in ()I"}, {api.ErrStatic, "invokevirtual Sys.in ()I"},
		{api.ErrResolve, "invokestatic Sys.out (J)V"}, {api.ErrResolve, "invokestatic Sys.outl (I)V"}, {api.ErrResolve, "invokestatic Sys.in ()J"}, {api.ErrResolve, "invokestatic Sys.in (I)I"}, {api.ErrResolve, "invokestatic Sys.Out (I)V"}, {api.ErrResolve, "invokestatic sys.out (I)V"}, {api.ErrResolve, "invokestatic Sys. "}, {api.ErrResolve, "invokestatic Sys.<init> ()V"}, {api.ErrResolve, "invokestatic [LSys;.out (I)V"}, {api.ErrResolve, "invokestatic A.out (I)V"}, {api.ErrResolve, "invokestatic java/lang/Object.in ()I"}, {api.ErrResolve, "invokestatic Sys.out (I)V "},
		// What there is not comes ahead of what is not static.
		{api.ErrResolve, "invokevirtual Sys.f ()V"}, {api.ErrResolve, "invokespecial Sys.<init> ()V"}, {api.ErrResolve, "invokevirtual A.h ()V"},
		{api.ErrResolve, "new #: 0"}, {api.ErrResolve, "new #: 65535"}, {api.ErrResolve, "new text: A"}, {api.ErrResolve, "new X"}, {api.ErrResolve, "new Sys"}, {api.ErrResolve, "new [I"}, {api.ErrResolve, "new [LA;"}, {api.ErrResolve, "new LA;"}, {api.ErrResolve, "new field: A.x I"},
		{api.ErrResolve, "anewarray #: 0"}, {api.ErrResolve, "anewarray text: A"}, {api.ErrResolve, "anewarray X"}, {api.ErrResolve, "anewarray Sys"}, {api.ErrResolve, "anewarray [LX;"}, {api.ErrResolve, "anewarray [LSys;"}, {api.ErrResolve, "anewarray LA;"}, {api.ErrResolve, "anewarray ["}, {api.ErrResolve, "anewarray [A"}, {api.ErrResolve, "anewarray [V"}, {api.ErrResolve, "anewarray J"}, {api.ErrResolve, "anewarray [LA;;"},
		{api.ErrResolve, "checkcast #: 65535"}, {api.ErrResolve, "checkcast text: A"}, {api.ErrResolve, "checkcast X"}, {api.ErrResolve, "checkcast Sys"}, {api.ErrResolve, "checkcast [[LX;"}, {api.ErrResolve, "checkcast [LSys;"}, {api.ErrResolve, "checkcast LA;"}, {api.ErrResolve, "checkcast A/"}, {api.ErrResolve, "checkcast <init>"}, {api.ErrResolve, "checkcast method: A.f ()V"},
		{api.ErrResolve, "instanceof #: 0"}, {api.ErrResolve, "instanceof X"}, {api.ErrResolve, "instanceof Sys"}, {api.ErrResolve, "instanceof [LX;"}, {api.ErrResolve, "instanceof []"}, {api.ErrResolve, "instanceof J"}, {api.ErrResolve, "instanceof [II"},
		{api.ErrResolve, "checkcast " + strings.Repeat("[", 17) + "I"}, {api.ErrResolve, "instanceof " + strings.Repeat("[", 17) + "LA;"}, {api.ErrResolve, "anewarray " + strings.Repeat("[", 16) + "J"}, {api.ErrResolve, "anewarray " + strings.Repeat("[", 16) + "LA;"}, {api.ErrResolve, "checkcast " + strings.Repeat("[", 254) + "I"}, {api.ErrResolve, "anewarray " + strings.Repeat("[", 254) + "I"},
		{api.ErrResolve, "checkcast " + long}, {api.ErrResolve, "checkcast [L" + long + ";"}, {api.ErrResolve, "anewarray " + long},
	} {
		refused(t, 0, x.e, world(fn("static f ()V", x.code+"; return"))...)
		// It need not be come to.
		refused(t, 0, x.e, world(fn("static f ()V", "return"), fn("static g ()V", "return; "+x.code))...)
	}
}

// TestArrays has as many dimensions, and as long names, as may be.
func TestArrays(t *testing.T) {
	for _, x := range []struct{ code, name string }{
		{"checkcast " + strings.Repeat("[", 16) + "I", strings.Repeat("[", 16) + "I"}, {"instanceof " + strings.Repeat("[", 16) + "LA;", strings.Repeat("[", 16) + "LA;"}, {"anewarray " + strings.Repeat("[", 15) + "J", strings.Repeat("[", 16) + "J"}, {"anewarray " + strings.Repeat("[", 15) + "Lp/Q;", strings.Repeat("[", 16) + "Lp/Q;"},
		{"anewarray java/lang/Object", "[Ljava/lang/Object;"}, {"checkcast [[J", "[[J"}, {"anewarray [J", "[[J"},
	} {
		p := linked(t, world(fn("static f ()V", x.code+"; return"))...)
		if len(p.Types) != 1 || p.Types[0] != (api.Type{Kind: api.TyRef, Name: x.name}) {
			t.Error(x, p.Types)
		}
	}
	for n := 240; n <= 255; n++ {
		name := strings.Repeat("n", n)
		for code, most := range map[string]int{"new " + name: 255, "checkcast " + name: 255, "instanceof " + name: 255, "anewarray " + name: 252, "checkcast [L" + name + ";": 252, "anewarray [L" + name + ";": 251, "getstatic " + name + ".s I": 255} {
			if strings.Contains(code, ";") && n > 252 {
				continue // no text of a pool
			}
			l := append(world(fn("static f ()V", code+"; return")), of(name, "static s I"))
			if n <= most {
				linked(t, l...)
			} else {
				refused(t, 0, api.ErrResolve, l...)
			}
		}
	}
}

// TestSysNames has the methods of Sys, whose names end anywhere.
func TestSysNames(t *testing.T) {
	for text, kind := range map[string]int{"out(I)V": api.KOut, "outl(J)V": api.KOutL, "in()I": api.KIn} {
		for i := range len(text) + 1 {
			code := "Sys." + text[:i] + " " + text[i:] + "; return"
			if p := linked(t, world(fn("static f ()V", "invokestatic "+code))...); p.Funcs[0].Ops[0] != (api.Op{Kind: kind}) {
				t.Error(code, p.Funcs[0].Ops)
			}
			refused(t, 0, api.ErrStatic, world(fn("static f ()V", "invokevirtual "+code))...)
			refused(t, 0, api.ErrStatic, world(fn("static f ()V", "invokespecial "+code))...)
		}
	}
	// Of other classes the name ends where it ends.
	for _, code := range []string{"invokevirtual A. f()V", "invokevirtual A.f( )V", "invokevirtual A.f() V", "invokevirtual A.f()V ", "invokespecial java/lang/Object.<init>( )V", "invokespecial java/lang/Object. <init>()V", "getfield A.xI ", "getfield A. xI"} {
		refused(t, 0, api.ErrResolve, world(fn("static f ()V", code+"; return"))...)
	}
}

// TestAlikeInstructions has the same entry under several instructions, and in files whose pools have others there.
func TestAlikeInstructions(t *testing.T) {
	code := "new A; checkcast A; instanceof A; anewarray A; new A; anewarray A; invokespecial A.f ()V; invokevirtual A.f ()V; ldc2_w 5; ldc2_w 6; ldc2_w 5; return"
	l := world(fn("static f ()V", code), fn("static g ()V", "newarray 10; "+code))
	l[1].methods[0].code = "ldc 99; " + code
	l[2].methods[0].code = "new B; checkcast B; instanceof A; " + code
	p := linked(t, l...)
	for _, n := range []int{0, 1, 3, 6} {
		ops := p.Funcs[n].Ops
		ops = ops[len(ops)-12:]
		for i, want := range []api.Op{{Kind: api.KNew, A: 10}, {Kind: api.KCast}, {Kind: api.KIs}, {Kind: api.KNewArr, A: 1}, {Kind: api.KNew, A: 10}, {Kind: api.KNewArr, A: 1}, {Kind: api.KCallSpec, A: 6}, {Kind: api.KCallVirt, A: 6}, {Kind: api.KLong, N: 5}, {Kind: api.KLong, N: 6}, {Kind: api.KLong, N: 5}, {Kind: api.KReturn}} {
			want.At = ops[i].At
			if ops[i] != want {
				t.Error(n, i, ops[i], want)
			}
		}
	}
}
