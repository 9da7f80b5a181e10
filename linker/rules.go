package linker

import (
	"maps"

	"tabard/api"
)

// rule is what an opcode says of its instructions: the method that they become an operation by, the operation's kind, and a number that the method knows the meaning of.
type rule struct {
	become func(*body, rule, api.Instr) (api.Op, api.Errno)
	kind   int
	n      int
}

// rules are those of all opcodes.
func rules() map[int]rule {
	all := map[int]rule{}
	for _, some := range []map[int]rule{constantRules(), localRules(), stackRules(), intRules(), longRules(), flowRules(), nameRules()} {
		maps.Copy(all, some)
	}
	return all
}

func constantRules() map[int]rule {
	return map[int]rule{
		1:  {(*body).bare, api.KNull, 0},           // aconst_null
		2:  {(*body).fixed, api.KInt, -1},          // iconst_m1
		3:  {(*body).fixed, api.KInt, 0},           // iconst_0
		4:  {(*body).fixed, api.KInt, 1},           // iconst_1
		5:  {(*body).fixed, api.KInt, 2},           // iconst_2
		6:  {(*body).fixed, api.KInt, 3},           // iconst_3
		7:  {(*body).fixed, api.KInt, 4},           // iconst_4
		8:  {(*body).fixed, api.KInt, 5},           // iconst_5
		9:  {(*body).fixed, api.KLong, 0},          // lconst_0
		10: {(*body).fixed, api.KLong, 1},          // lconst_1
		16: {(*body).pushed, api.KInt, 0},          // bipush
		17: {(*body).pushed, api.KInt, 0},          // sipush
		18: {(*body).held, api.KInt, api.TagInt},   // ldc
		20: {(*body).held, api.KLong, api.TagLong}, // ldc2_w
	}
}

func localRules() map[int]rule {
	return map[int]rule{
		21:  {(*body).local, api.KILoad, 0},       // iload
		22:  {(*body).local, api.KLLoad, 0},       // lload
		25:  {(*body).local, api.KALoad, 0},       // aload
		26:  {(*body).fixedLocal, api.KILoad, 0},  // iload_0
		27:  {(*body).fixedLocal, api.KILoad, 1},  // iload_1
		28:  {(*body).fixedLocal, api.KILoad, 2},  // iload_2
		29:  {(*body).fixedLocal, api.KILoad, 3},  // iload_3
		30:  {(*body).fixedLocal, api.KLLoad, 0},  // lload_0
		31:  {(*body).fixedLocal, api.KLLoad, 1},  // lload_1
		32:  {(*body).fixedLocal, api.KLLoad, 2},  // lload_2
		33:  {(*body).fixedLocal, api.KLLoad, 3},  // lload_3
		42:  {(*body).fixedLocal, api.KALoad, 0},  // aload_0
		43:  {(*body).fixedLocal, api.KALoad, 1},  // aload_1
		44:  {(*body).fixedLocal, api.KALoad, 2},  // aload_2
		45:  {(*body).fixedLocal, api.KALoad, 3},  // aload_3
		54:  {(*body).local, api.KIStore, 0},      // istore
		55:  {(*body).local, api.KLStore, 0},      // lstore
		58:  {(*body).local, api.KAStore, 0},      // astore
		59:  {(*body).fixedLocal, api.KIStore, 0}, // istore_0
		60:  {(*body).fixedLocal, api.KIStore, 1}, // istore_1
		61:  {(*body).fixedLocal, api.KIStore, 2}, // istore_2
		62:  {(*body).fixedLocal, api.KIStore, 3}, // istore_3
		63:  {(*body).fixedLocal, api.KLStore, 0}, // lstore_0
		64:  {(*body).fixedLocal, api.KLStore, 1}, // lstore_1
		65:  {(*body).fixedLocal, api.KLStore, 2}, // lstore_2
		66:  {(*body).fixedLocal, api.KLStore, 3}, // lstore_3
		75:  {(*body).fixedLocal, api.KAStore, 0}, // astore_0
		76:  {(*body).fixedLocal, api.KAStore, 1}, // astore_1
		77:  {(*body).fixedLocal, api.KAStore, 2}, // astore_2
		78:  {(*body).fixedLocal, api.KAStore, 3}, // astore_3
		132: {(*body).local, api.KIInc, 0},        // iinc
	}
}

func stackRules() map[int]rule {
	return map[int]rule{
		0:   {(*body).bare, api.KNop, 0},     // nop
		46:  {(*body).bare, api.KIALoad, 0},  // iaload
		47:  {(*body).bare, api.KLALoad, 0},  // laload
		50:  {(*body).bare, api.KAALoad, 0},  // aaload
		79:  {(*body).bare, api.KIAStore, 0}, // iastore
		80:  {(*body).bare, api.KLAStore, 0}, // lastore
		83:  {(*body).bare, api.KAAStore, 0}, // aastore
		87:  {(*body).bare, api.KPop, 0},     // pop
		89:  {(*body).bare, api.KDup, 0},     // dup
		90:  {(*body).bare, api.KDupX1, 0},   // dup_x1
		95:  {(*body).bare, api.KSwap, 0},    // swap
		190: {(*body).bare, api.KLength, 0},  // arraylength
		191: {(*body).bare, api.KThrow, 0},   // athrow
	}
}

func intRules() map[int]rule {
	return map[int]rule{
		96:  {(*body).bare, api.KI2, api.BinAdd},       // iadd
		100: {(*body).bare, api.KI2, api.BinSub},       // isub
		104: {(*body).bare, api.KI2, api.BinMul},       // imul
		108: {(*body).bare, api.KI2, api.BinDiv},       // idiv
		112: {(*body).bare, api.KI2, api.BinRem},       // irem
		116: {(*body).bare, api.KINeg, 0},              // ineg
		120: {(*body).bare, api.KIShift, api.BinShl},   // ishl
		122: {(*body).bare, api.KIShift, api.BinShr},   // ishr
		124: {(*body).bare, api.KIShift, api.BinUshr},  // iushr
		126: {(*body).bare, api.KI2, api.BinAnd},       // iand
		128: {(*body).bare, api.KI2, api.BinOr},        // ior
		130: {(*body).bare, api.KI2, api.BinXor},       // ixor
		133: {(*body).bare, api.KI2L, 0},               // i2l
		145: {(*body).bare, api.KNarrow, api.NarByte},  // i2b
		146: {(*body).bare, api.KNarrow, api.NarChar},  // i2c
		147: {(*body).bare, api.KNarrow, api.NarShort}, // i2s
	}
}

func longRules() map[int]rule {
	return map[int]rule{
		97:  {(*body).bare, api.KL2, api.BinAdd},      // ladd
		101: {(*body).bare, api.KL2, api.BinSub},      // lsub
		105: {(*body).bare, api.KL2, api.BinMul},      // lmul
		109: {(*body).bare, api.KL2, api.BinDiv},      // ldiv
		113: {(*body).bare, api.KL2, api.BinRem},      // lrem
		117: {(*body).bare, api.KLNeg, 0},             // lneg
		121: {(*body).bare, api.KLShift, api.BinShl},  // lshl
		123: {(*body).bare, api.KLShift, api.BinShr},  // lshr
		125: {(*body).bare, api.KLShift, api.BinUshr}, // lushr
		127: {(*body).bare, api.KL2, api.BinAnd},      // land
		129: {(*body).bare, api.KL2, api.BinOr},       // lor
		131: {(*body).bare, api.KL2, api.BinXor},      // lxor
		136: {(*body).bare, api.KL2I, 0},              // l2i
		148: {(*body).bare, api.KLCmp, 0},             // lcmp
	}
}

func flowRules() map[int]rule {
	return map[int]rule{
		153: {(*body).jump, api.KIf, api.CondEq},     // ifeq
		154: {(*body).jump, api.KIf, api.CondNe},     // ifne
		155: {(*body).jump, api.KIf, api.CondLt},     // iflt
		156: {(*body).jump, api.KIf, api.CondGe},     // ifge
		157: {(*body).jump, api.KIf, api.CondGt},     // ifgt
		158: {(*body).jump, api.KIf, api.CondLe},     // ifle
		159: {(*body).jump, api.KIfI, api.CondEq},    // if_icmpeq
		160: {(*body).jump, api.KIfI, api.CondNe},    // if_icmpne
		161: {(*body).jump, api.KIfI, api.CondLt},    // if_icmplt
		162: {(*body).jump, api.KIfI, api.CondGe},    // if_icmpge
		163: {(*body).jump, api.KIfI, api.CondGt},    // if_icmpgt
		164: {(*body).jump, api.KIfI, api.CondLe},    // if_icmple
		165: {(*body).jump, api.KIfA, api.CondEq},    // if_acmpeq
		166: {(*body).jump, api.KIfA, api.CondNe},    // if_acmpne
		167: {(*body).jump, api.KGoto, 0},            // goto
		172: {(*body).bare, api.KReturn, api.VInt},   // ireturn
		173: {(*body).bare, api.KReturn, api.VLong},  // lreturn
		176: {(*body).bare, api.KReturn, api.VRef},   // areturn
		177: {(*body).bare, api.KReturn, 0},          // return
		198: {(*body).jump, api.KIfNull, api.CondEq}, // ifnull
		199: {(*body).jump, api.KIfNull, api.CondNe}, // ifnonnull
	}
}

func nameRules() map[int]rule {
	return map[int]rule{
		178: {(*body).static, api.KGetStat, 0},  // getstatic
		179: {(*body).static, api.KPutStat, 0},  // putstatic
		180: {(*body).inside, api.KGetField, 0}, // getfield
		181: {(*body).inside, api.KPutField, 0}, // putfield
		182: {(*body).call, api.KCallVirt, 0},   // invokevirtual
		183: {(*body).call, api.KCallSpec, 0},   // invokespecial
		184: {(*body).call, api.KCallStat, 0},   // invokestatic
		187: {(*body).object, api.KNew, 0},      // new
		188: {(*body).numbers, api.KNewArr, 0},  // newarray
		189: {(*body).array, api.KNewArr, 0},    // anewarray
		192: {(*body).typed, api.KCast, 0},      // checkcast
		193: {(*body).typed, api.KIs, 0},        // instanceof
	}
}
