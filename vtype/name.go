package vtype

import (
	"strings"

	"tabard/api"
	"tabard/hier"
)

// What the names of arrays are made of.
const (
	bracket = "["
	whole   = "I"
	long    = "J"
	class   = "L"
	end     = ";"
)

// reference is the type of references to a class or an array.
func reference(name string) api.Type { return api.Type{Kind: api.TyRef, Name: name} }

// has tells whether h has a class of a name.
func has(h *hier.Hier, name string) bool {
	_, is := h.Find(name)
	return is
}

// hasArray tells whether a name is an array's, and names no class that h has not.
func hasArray(h *hier.Hier, name string) bool {
	n := brackets(name)
	if n == 0 || n > api.MaxDims {
		return false
	}
	base := name[n:]
	if base == whole || base == long {
		return true
	}
	c, is := within(base)
	return is && has(h, c)
}

// within is the class's name in a text that stands for it in an array's name.
func within(s string) (string, bool) {
	s, begins := strings.CutPrefix(s, class)
	s, ends := strings.CutSuffix(s, end)
	if !begins || !ends || !isClass(s) {
		return "", false
	}
	return s, true
}

// isClass tells whether a text may be a class's name. Whatever a hierarchy has beside such classes, no array is made of.
func isClass(name string) bool { return name != "" && brackets(name) == 0 }

// brackets is how many of them stand ahead of a text.
func brackets(s string) int { return len(s) - len(strings.TrimLeft(s, bracket)) }
