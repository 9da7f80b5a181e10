package heap

import (
	"math"

	"tabard/api"
)

// Zero is the value that a place of a type has at first.
func Zero(t api.Type) (api.Val, bool) {
	switch t.Kind {
	case api.TyInt:
		return api.Val{Kind: api.VInt}, true
	case api.TyLong:
		return api.Val{Kind: api.VLong}, true
	case api.TyRef:
		return api.Val{Kind: api.VRef}, true
	}
	return api.Val{}, false
}

// Fits tells whether a value may be put to a place of a type.
func Fits(t api.Type, v api.Val) bool {
	zero, is := Zero(t)
	if !is || zero.Kind != v.Kind {
		return false
	}
	switch v.Kind {
	case api.VInt:
		return math.MinInt32 <= v.N && v.N <= math.MaxInt32
	case api.VRef:
		return v.N >= 0
	}
	return true
}
