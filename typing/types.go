package typing

import (
	"strings"

	"tabard/api"
	"tabard/vtype"
)

func top() api.Type   { return api.Type{Kind: api.TyTop} }
func whole() api.Type { return api.Type{Kind: api.TyInt} }
func long() api.Type  { return api.Type{Kind: api.TyLong} }
func null() api.Type  { return api.Type{Kind: api.TyNull} }

// ref is the type of references to a class, or to an array.
func ref(name string) api.Type { return api.Type{Kind: api.TyRef, Name: name} }

func isInt(t api.Type) bool  { return t.Kind == api.TyInt }
func isLong(t api.Type) bool { return t.Kind == api.TyLong }
func isNull(t api.Type) bool { return t.Kind == api.TyNull }
func isRef(t api.Type) bool  { return t.Kind == api.TyRef }

// isReference tells whether a type is that of references, or of null alone.
func isReference(t api.Type) bool { return isNull(t) || isRef(t) }

func isArray(t api.Type) bool { return isRef(t) && strings.HasPrefix(t.Name, "[") }

// element is the type of what stands in an array; null, of null; of no use, of what is no array.
func element(t api.Type) api.Type {
	if isNull(t) {
		return t
	}
	e, _ := vtype.Element(t)
	return e
}
