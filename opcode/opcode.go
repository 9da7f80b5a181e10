// Package opcode is layer 1: the instructions of methods' code, with the JVM's numbers, from bytes and to bytes. See shared/doc/01-opcode.md.
package opcode

import (
	"bytes"
	"iter"

	"tabard/api"
)

// One is the instruction at an address, and the address behind it.
func One(b []byte, at int) (api.Instr, int, api.Errno) {
	if at < 0 || at >= len(b) {
		return api.Instr{}, 0, api.ErrShort
	}
	op := int(b[at])
	size, is := Size(op)
	if !is {
		return api.Instr{}, 0, api.ErrOpcode
	}
	if len(b)-at < size {
		return api.Instr{}, 0, api.ErrShort
	}
	x := read(op, at, b[at+1:at+size])
	if op == newarray && x.A != arrayOfInts && x.A != arrayOfLongs {
		return api.Instr{}, 0, api.ErrField
	}
	return x, at + size, api.OK
}

// Decode are all instructions of a method's code.
func Decode(b []byte) ([]api.Instr, api.Errno) {
	if len(b) > api.MaxCode {
		return nil, api.ErrLong
	}
	if len(b) == 0 {
		return nil, api.ErrShort
	}
	var l []api.Instr
	for at := 0; at < len(b); {
		x, next, e := One(b, at)
		if e != api.OK {
			return nil, e
		}
		l, at = append(l, x), next
	}
	if !jumpsLand(l, len(b)) {
		return nil, api.ErrJump
	}
	return l, api.OK
}

// Encode are the bytes of instructions.
func Encode(l ...api.Instr) ([]byte, api.Errno) {
	var b []byte
	for _, x := range l {
		form, is := Form(x.Op)
		if !is {
			return nil, api.ErrOpcode
		}
		at := len(b)
		b = write(b, x, form)
		// What does not fit its form is cut by write's conversions, or left out, and what stands elsewhere than its At says is read with another one: so the bytes tell another instruction just if this one may not be.
		if y, _, e := One(b, at); e != api.OK || y != x {
			return nil, api.ErrField
		}
	}
	// Asked last, because a fault of an instruction comes ahead of the length, wherever it stands.
	if len(b) > api.MaxCode {
		return nil, api.ErrLong
	}
	return b, api.OK
}

// Walk goes through the instructions, up to the first that One refuses.
func Walk(b []byte) iter.Seq2[int, api.Instr] {
	// The owner may write to b while, or before, the iterator is ranged over.
	b = bytes.Clone(b)
	return func(yield func(int, api.Instr) bool) {
		at := 0
		for {
			x, next, e := One(b, at)
			if e != api.OK || !yield(at, x) {
				return
			}
			at = next
		}
	}
}
