package opcode

import "tabard/api"

// Ends tells whether what follows an opcode is not gone on with.
func Ends(op int) bool {
	switch op {
	case goTo, ireturn, lreturn, areturn, vreturn, athrow:
		return true
	}
	return false
}

// Next are the places of the instructions that may come behind the one at a place.
func Next(l []api.Instr, i int) []int {
	if i < 0 || i >= len(l) {
		return nil
	}
	x := l[i]
	var places []int
	// The whole list is looked through, because it may be any: several of it may have the same address, and in any order.
	for k, y := range l {
		falls := k == i+1 && !Ends(x.Op)
		if falls || jumps(x.Op) && y.At == x.A {
			places = append(places, k)
		}
	}
	return places
}

func jumps(op int) bool {
	form, is := Form(op)
	return is && form == api.FoJump
}

// jumpsLand tells whether each jump goes to where an instruction begins, of instructions that lie one behind the other in so many bytes.
func jumpsLand(l []api.Instr, size int) bool {
	begins := make([]bool, size)
	for _, x := range l {
		begins[x.At] = true
	}
	for _, x := range l {
		if jumps(x.Op) && (x.A < 0 || x.A >= size || !begins[x.A]) {
			return false
		}
	}
	return true
}
