package arith

import "tabard/api"

// A condition is when it holds of two numbers, and which conditions go with it.
type condition struct {
	below, same, above bool // whether it holds of an a that is below b, the same, above it
	not                int
	swap               int
}

// conditions stand by their numbers; 0 is none, and holds of nothing.
var conditions = [...]condition{
	api.CondEq: {same: true, not: api.CondNe, swap: api.CondEq},
	api.CondNe: {below: true, above: true, not: api.CondEq, swap: api.CondNe},
	api.CondLt: {below: true, not: api.CondGe, swap: api.CondGt},
	api.CondGe: {same: true, above: true, not: api.CondLt, swap: api.CondLe},
	api.CondGt: {above: true, not: api.CondLe, swap: api.CondLt},
	api.CondLe: {below: true, same: true, not: api.CondGt, swap: api.CondGe},
}

// find answers what stands at 0 of all numbers that are no condition.
func find(cond int) condition {
	if cond < 0 || cond >= len(conditions) {
		return conditions[0]
	}
	return conditions[cond]
}

// Compare is -1, 0 or 1, as a is below b, the same or above it.
func Compare(a, b int64) int64 {
	switch {
	case a < b:
		return -1
	case a > b:
		return 1
	}
	return 0
}

// Cond says whether a stands to b as the condition says.
func Cond(cond int, a, b int64) bool {
	x := find(cond)
	switch {
	case a < b:
		return x.below
	case a > b:
		return x.above
	}
	return x.same
}

// Not is the condition that holds just if this one does not.
func Not(cond int) int { return find(cond).not }

// Swap is the condition that holds of b and a just if this one does of a and b.
func Swap(cond int) int { return find(cond).swap }
