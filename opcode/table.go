package opcode

import "tabard/api"

// numbers is how many numbers the tables have, from 0 on: from there on there is no opcode.
const numbers = 200

// What forms has: a form and one more, so that nought is free to say that a number is no opcode.
const (
	gap   = 0
	plain = 1 + api.FoNone
	local = 1 + api.FoLocal
	octet = 1 + api.FoByte
	short = 1 + api.FoShort
	low   = 1 + api.FoLow
	index = 1 + api.FoIndex
	jump  = 1 + api.FoJump
	inc   = 1 + api.FoInc
	array = 1 + api.FoArray
)

// Opcodes that something else than their form hangs on.
const (
	goTo     = 167
	ireturn  = 172
	lreturn  = 173
	areturn  = 176
	vreturn  = 177
	newarray = 188
	athrow   = 191
)

// The types of arrays that newarray can name.
const (
	arrayOfInts  = 10
	arrayOfLongs = 11
)

// forms stands by itself, without the names, because it is read for each instruction.
var forms = [numbers]uint8{
	plain, plain, plain, plain, plain, plain, plain, plain, plain, plain, // 0
	plain, gap, gap, gap, gap, gap, octet, short, low, gap, // 10
	index, local, local, gap, gap, local, plain, plain, plain, plain, // 20
	plain, plain, plain, plain, gap, gap, gap, gap, gap, gap, // 30
	gap, gap, plain, plain, plain, plain, plain, plain, gap, gap, // 40
	plain, gap, gap, gap, local, local, gap, gap, local, plain, // 50
	plain, plain, plain, plain, plain, plain, plain, gap, gap, gap, // 60
	gap, gap, gap, gap, gap, plain, plain, plain, plain, plain, // 70
	plain, gap, gap, plain, gap, gap, gap, plain, gap, plain, // 80
	plain, gap, gap, gap, gap, plain, plain, plain, gap, gap, // 90
	plain, plain, gap, gap, plain, plain, gap, gap, plain, plain, // 100
	gap, gap, plain, plain, gap, gap, plain, plain, gap, gap, // 110
	plain, plain, plain, plain, plain, plain, plain, plain, plain, plain, // 120
	plain, plain, inc, plain, gap, gap, plain, gap, gap, gap, // 130
	gap, gap, gap, gap, gap, plain, plain, plain, plain, gap, // 140
	gap, gap, gap, jump, jump, jump, jump, jump, jump, jump, // 150
	jump, jump, jump, jump, jump, jump, jump, jump, gap, gap, // 160
	gap, gap, plain, plain, gap, gap, plain, plain, index, index, // 170
	index, index, index, index, index, gap, gap, index, array, index, // 180
	plain, plain, index, index, gap, gap, gap, gap, jump, jump, // 190
}

// behind is how many bytes a form has behind the opcode.
var behind = [...]uint8{
	api.FoNone:  0,
	api.FoLocal: 1,
	api.FoByte:  1,
	api.FoShort: 2,
	api.FoLow:   1,
	api.FoIndex: 2,
	api.FoJump:  2,
	api.FoInc:   2,
	api.FoArray: 1,
}

// names is a function, because a table at package level may not be so great.
func names() [numbers]string {
	return [numbers]string{
		0: "nop", 1: "aconst_null",
		2: "iconst_m1", 3: "iconst_0", 4: "iconst_1", 5: "iconst_2", 6: "iconst_3", 7: "iconst_4", 8: "iconst_5",
		9: "lconst_0", 10: "lconst_1",
		16: "bipush", 17: "sipush", 18: "ldc", 20: "ldc2_w",
		21: "iload", 22: "lload", 25: "aload",
		26: "iload_0", 27: "iload_1", 28: "iload_2", 29: "iload_3",
		30: "lload_0", 31: "lload_1", 32: "lload_2", 33: "lload_3",
		42: "aload_0", 43: "aload_1", 44: "aload_2", 45: "aload_3",
		46: "iaload", 47: "laload", 50: "aaload",
		54: "istore", 55: "lstore", 58: "astore",
		59: "istore_0", 60: "istore_1", 61: "istore_2", 62: "istore_3",
		63: "lstore_0", 64: "lstore_1", 65: "lstore_2", 66: "lstore_3",
		75: "astore_0", 76: "astore_1", 77: "astore_2", 78: "astore_3",
		79: "iastore", 80: "lastore", 83: "aastore",
		87: "pop", 89: "dup", 90: "dup_x1", 95: "swap",
		96: "iadd", 97: "ladd", 100: "isub", 101: "lsub", 104: "imul", 105: "lmul",
		108: "idiv", 109: "ldiv", 112: "irem", 113: "lrem", 116: "ineg", 117: "lneg",
		120: "ishl", 121: "lshl", 122: "ishr", 123: "lshr", 124: "iushr", 125: "lushr",
		126: "iand", 127: "land", 128: "ior", 129: "lor", 130: "ixor", 131: "lxor",
		132: "iinc", 133: "i2l", 136: "l2i", 145: "i2b", 146: "i2c", 147: "i2s", 148: "lcmp",
		153: "ifeq", 154: "ifne", 155: "iflt", 156: "ifge", 157: "ifgt", 158: "ifle",
		159: "if_icmpeq", 160: "if_icmpne", 161: "if_icmplt", 162: "if_icmpge", 163: "if_icmpgt", 164: "if_icmple",
		165: "if_acmpeq", 166: "if_acmpne", goTo: "goto",
		ireturn: "ireturn", lreturn: "lreturn", areturn: "areturn", vreturn: "return",
		178: "getstatic", 179: "putstatic", 180: "getfield", 181: "putfield",
		182: "invokevirtual", 183: "invokespecial", 184: "invokestatic",
		187: "new", newarray: "newarray", 189: "anewarray", 190: "arraylength",
		athrow: "athrow", 192: "checkcast", 193: "instanceof", 198: "ifnull", 199: "ifnonnull",
	}
}

// Form is what stands behind an opcode.
func Form(op int) (int, bool) {
	if op < 0 || op >= numbers || forms[op] == gap {
		return 0, false
	}
	return int(forms[op]) - 1, true
}

// Name is an opcode's name, Find the opcode of a name.
func Name(op int) string {
	if _, is := Form(op); !is {
		return ""
	}
	l := names()
	return l[op]
}

func Find(name string) (int, bool) {
	for op, s := range names() {
		// A gap has no name, which is not the name "".
		if s == name && s != "" {
			return op, true
		}
	}
	return 0, false
}

// Size is how many bytes an instruction has.
func Size(op int) (int, bool) {
	form, is := Form(op)
	if !is {
		return 0, false
	}
	return 1 + int(behind[form]), true
}
