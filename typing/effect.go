package typing

import (
	"slices"

	"tabard/api"
	"tabard/vtype"
)

// ask is what an operation asks of a type that it takes.
type ask struct {
	such func(api.Type) bool
	fits api.Type // what the type must fit
	only bool     // whether such asks no more than that
}

// effect is what an operation does to a frame, by functions that it hands on: what it asks of the types that it takes, of which the last one is the topmost, and what is done with these then.
type effect struct {
	asks []ask
	then func(f *frame, taken []api.Type)
}

// takes is of an operation that takes certain types, and no more.
func takes(l ...ask) effect { return effect{asks: l} }

// takesWhatFits is takes of types that must fit others.
func (m *method) takesWhatFits(l ...api.Type) effect {
	var e effect
	for _, t := range l {
		e.asks = append(e.asks, m.whatFits(t))
	}
	return e
}

// puts is an effect that then puts types on the stack.
func (e effect) puts(l ...api.Type) effect {
	return e.does(func(f *frame, _ []api.Type) { f.put(l...) })
}

// does is an effect that then does something else.
func (e effect) does(then func(f *frame, taken []api.Type)) effect {
	e.then = then
	return e
}

// of does an effect to a frame.
func (e effect) of(f *frame) {
	taken := make([]api.Type, len(e.asks))
	for k, a := range slices.Backward(e.asks) {
		taken[k] = f.take(a.such)
	}
	if e.then != nil {
		e.then(f, taken)
	}
}

// types is what an effect takes, the topmost first, if that is asked no more than to fit them.
func (e effect) types() ([]api.Type, bool) {
	var l []api.Type
	for _, a := range slices.Backward(e.asks) {
		if !a.only {
			return nil, false
		}
		l = append(l, a.fits)
	}
	return l, true
}

// whatFits asks for what fits a type.
func (m *method) whatFits(t api.Type) ask {
	return ask{such: func(x api.Type) bool { return m.fits(x, t) }, fits: t, only: true}
}

// arrayOf asks for an array of a type; null fits that, too.
func (m *method) arrayOf(t api.Type) ask {
	a, _ := vtype.Array(t)
	return ask{such: func(x api.Type) bool { return m.fits(x, a) }}
}

// single, reference, anyArray and arrayOfRefs ask for types of more than one sort.
func single() ask { return ask{such: func(t api.Type) bool { return t.Kind != api.TyLong }} }

func reference() ask { return ask{such: isReference} }

func anyArray() ask { return ask{such: func(t api.Type) bool { return isNull(t) || isArray(t) }} }

func arrayOfRefs() ask {
	return ask{such: func(t api.Type) bool { return isReference(element(t)) }}
}
