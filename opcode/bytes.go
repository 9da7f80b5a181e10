package opcode

import "tabard/api"

// read is the instruction whose opcode stands at an address, and whose other bytes are b.
func read(op, at int, b []byte) api.Instr {
	x := api.Instr{At: at, Op: op}
	switch form, _ := Form(op); form {
	case api.FoLocal, api.FoLow, api.FoArray:
		x.A = int(b[0])
	case api.FoByte:
		x.A = int(int8(b[0]))
	case api.FoShort:
		x.A = int(int16(pair(b)))
	case api.FoIndex:
		x.A = int(pair(b))
	case api.FoJump:
		x.A = at + int(int16(pair(b)))
	case api.FoInc:
		x.A, x.B = int(b[0]), int(int8(b[1]))
	}
	return x
}

func pair(b []byte) uint16 {
	return uint16(b[0])<<8 | uint16(b[1])
}

// write puts an instruction's bytes behind b; of what does not fit its form only the lower bits.
func write(b []byte, x api.Instr, form int) []byte {
	b = append(b, byte(x.Op))
	switch form {
	case api.FoLocal, api.FoLow, api.FoArray, api.FoByte:
		b = append(b, byte(x.A))
	case api.FoShort, api.FoIndex:
		b = append(b, byte(x.A>>8), byte(x.A))
	case api.FoJump:
		far := x.A - x.At
		b = append(b, byte(far>>8), byte(far))
	case api.FoInc:
		b = append(b, byte(x.A), byte(x.B))
	}
	return b
}
