package opcode_test

import (
	"math"
	"strings"
	"testing"

	"tabard/api"
	"tabard/opcode"
)

// listed are the opcodes as the document lists them, by form: the tests hold the program against this text, and not against its own tables.
var listed = map[int]string{
	api.FoNone: `0 nop, 1 aconst_null, 2 iconst_m1, 3 iconst_0, 4 iconst_1, 5 iconst_2, 6 iconst_3, 7 iconst_4, 8 iconst_5,
		9 lconst_0, 10 lconst_1, 26 iload_0, 27 iload_1, 28 iload_2, 29 iload_3, 30 lload_0, 31 lload_1, 32 lload_2,
		33 lload_3, 42 aload_0, 43 aload_1, 44 aload_2, 45 aload_3, 46 iaload, 47 laload, 50 aaload, 59 istore_0,
		60 istore_1, 61 istore_2, 62 istore_3, 63 lstore_0, 64 lstore_1, 65 lstore_2, 66 lstore_3, 75 astore_0,
		76 astore_1, 77 astore_2, 78 astore_3, 79 iastore, 80 lastore, 83 aastore, 87 pop, 89 dup, 90 dup_x1, 95 swap,
		96 iadd, 97 ladd, 100 isub, 101 lsub, 104 imul, 105 lmul, 108 idiv, 109 ldiv, 112 irem, 113 lrem, 116 ineg,
		117 lneg, 120 ishl, 121 lshl, 122 ishr, 123 lshr, 124 iushr, 125 lushr, 126 iand, 127 land, 128 ior, 129 lor,
		130 ixor, 131 lxor, 133 i2l, 136 l2i, 145 i2b, 146 i2c, 147 i2s, 148 lcmp, 172 ireturn, 173 lreturn,
		176 areturn, 177 return, 190 arraylength, 191 athrow`,
	api.FoLocal: "21 iload, 22 lload, 25 aload, 54 istore, 55 lstore, 58 astore",
	api.FoByte:  "16 bipush",
	api.FoShort: "17 sipush",
	api.FoLow:   "18 ldc",
	api.FoIndex: `20 ldc2_w, 178 getstatic, 179 putstatic, 180 getfield, 181 putfield, 182 invokevirtual, 183 invokespecial,
		184 invokestatic, 187 new, 189 anewarray, 192 checkcast, 193 instanceof`,
	api.FoJump: `153 ifeq, 154 ifne, 155 iflt, 156 ifge, 157 ifgt, 158 ifle, 159 if_icmpeq, 160 if_icmpne, 161 if_icmplt,
		162 if_icmpge, 163 if_icmpgt, 164 if_icmple, 165 if_acmpeq, 166 if_acmpne, 167 goto, 198 ifnull, 199 ifnonnull`,
	api.FoInc:   "132 iinc",
	api.FoArray: "188 newarray",
}

// sizes are instructions' bytes, by form.
var sizes = map[int]int{
	api.FoNone: 1, api.FoLocal: 2, api.FoByte: 2, api.FoShort: 3, api.FoLow: 2,
	api.FoIndex: 3, api.FoJump: 3, api.FoInc: 3, api.FoArray: 2,
}

type entry struct {
	name string
	form int
}

func entries(t *testing.T) map[int]entry {
	t.Helper()
	all := map[int]entry{}
	for form, text := range listed {
		for _, item := range strings.Split(text, ",") {
			words := strings.Fields(item)
			op := 0
			for _, c := range words[0] {
				op = 10*op + int(c-'0')
			}
			all[op] = entry{words[1], form}
		}
	}
	if len(all) != 121 {
		t.Fatal("the list has", len(all))
	}
	return all
}

func TestTableAtEachNumber(t *testing.T) {
	all := entries(t)
	for op := -300; op <= 600; op++ {
		want, is := all[op]
		size := 0
		if is {
			size = sizes[want.form]
		}
		if form, ok := opcode.Form(op); ok != is || form != want.form {
			t.Errorf("Form(%d) = %d, %v", op, form, ok)
		}
		if name := opcode.Name(op); name != want.name {
			t.Errorf("Name(%d) = %q", op, name)
		}
		if n, ok := opcode.Size(op); ok != is || n != size {
			t.Errorf("Size(%d) = %d, %v", op, n, ok)
		}
	}
}

func TestTableAtFarNumbers(t *testing.T) {
	for _, op := range []int{math.MinInt, math.MinInt + 1, math.MinInt32, 1 << 8, 1<<8 + 167, 1 << 32, 1<<32 + 1, math.MaxInt - 1, math.MaxInt} {
		if form, is := opcode.Form(op); is || form != 0 {
			t.Error("Form", op, form, is)
		}
		if n, is := opcode.Size(op); is || n != 0 {
			t.Error("Size", op, n, is)
		}
		if name := opcode.Name(op); name != "" {
			t.Error("Name", op, name)
		}
		if opcode.Ends(op) {
			t.Error("Ends", op)
		}
	}
}

func TestFindIsNameTurnedRound(t *testing.T) {
	for op, want := range entries(t) {
		if n, is := opcode.Find(want.name); !is || n != op {
			t.Errorf("Find(%q) = %d, %v", want.name, n, is)
		}
	}
	seen := map[string]int{}
	for op := -1; op <= 256; op++ {
		name := opcode.Name(op)
		if name == "" {
			continue
		}
		if other, twice := seen[name]; twice {
			t.Errorf("%q names %d and %d", name, other, op)
		}
		seen[name] = op
		if n, is := opcode.Find(name); !is || n != op {
			t.Errorf("Find(Name(%d)) = %d, %v", op, n, is)
		}
	}
}

func TestFindOfNoName(t *testing.T) {
	for _, name := range []string{
		"", " ", "NOP", "Nop", "nop ", " nop", "no", "nopp", "nop\x00", "iload_4", "ldc_w", "wide", "iconst_6", "goto_w", "fadd", "dup2",
		"tableswitch", "monitorenter", "0", "\xff", strings.Repeat("nop", 1000),
	} {
		if n, is := opcode.Find(name); is || n != 0 {
			t.Errorf("Find(%q) = %d, %v", name, n, is)
		}
	}
}
