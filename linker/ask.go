package linker

import (
	"iter"
	"slices"

	"tabard/api"
)

// Op is the place of the operation with an address.
func Op(f api.Func, at int) (int, bool) {
	for i := range f.Ops {
		if f.Ops[i].At == at {
			return i, true
		}
	}
	return 0, false
}

// isPlace tells whether a method has an operation at a place.
func isPlace(f api.Func, i int) bool { return i >= 0 && i < len(f.Ops) }

// Next are the places of the operations that may come behind the one at a place, if nothing is thrown.
func Next(f api.Func, i int) []int {
	if !isPlace(f, i) {
		return nil
	}
	x := f.Ops[i]
	var places []int
	if goesOn(x.Kind) && isPlace(f, i+1) {
		places = append(places, i+1)
	}
	if jumps(x.Kind) {
		if to, is := Op(f, x.To); is {
			places = append(places, to)
		}
	}
	slices.Sort(places)
	return slices.Compact(places)
}

// goesOn tells whether the operation behind one of a kind may come next.
func goesOn(kind int) bool {
	switch kind {
	case api.KGoto, api.KReturn, api.KThrow:
		return false
	}
	return true
}

// jumps tells whether operations of a kind may go on at their To.
func jumps(kind int) bool {
	switch kind {
	case api.KIf, api.KIfI, api.KIfA, api.KIfNull, api.KGoto:
		return true
	}
	return false
}

// Name is a method's whole name.
func Name(p api.Program, n int) string {
	if n < 0 || n >= len(p.Funcs) {
		return ""
	}
	f := p.Funcs[n]
	if f.Class < 0 || f.Class >= len(p.Classes) {
		return ""
	}
	return p.Classes[f.Class].Name + "." + f.Name + f.Desc
}

// Find is the number of a method that a class itself has.
func Find(p api.Program, class, name, desc string) (int, bool) {
	c := slices.IndexFunc(p.Classes, func(k api.Klass) bool { return k.Name == class })
	if c < 0 {
		return 0, false
	}
	n := slices.IndexFunc(p.Funcs, func(f api.Func) bool { return f.Class == c && f.Name == name && f.Desc == desc })
	return max(n, 0), n >= 0
}

// Covers goes through the catches that cover the operation at a place.
func Covers(f api.Func, i int) iter.Seq[api.Catch] {
	var covers []api.Catch
	if isPlace(f, i) {
		// They are looked for now, as the owner may write to them before the iterator is ranged over.
		at := f.Ops[i].At
		for _, c := range f.Catches {
			if c.From <= at && at < c.To {
				covers = append(covers, c)
			}
		}
	}
	return func(yield func(api.Catch) bool) {
		for _, c := range covers {
			if !yield(c) {
				return
			}
		}
	}
}
