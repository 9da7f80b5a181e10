package linker

import (
	"slices"

	"tabard/api"
)

// Same tells whether two programs are the same.
func Same(a, b api.Program) bool {
	return a.Main == b.Main && slices.Equal(a.Statics, b.Statics) && slices.Equal(a.Types, b.Types) &&
		slices.EqualFunc(a.Classes, b.Classes, sameKlass) && slices.EqualFunc(a.Funcs, b.Funcs, sameFunc)
}

func sameKlass(a, b api.Klass) bool {
	return a.Name == b.Name && a.Super == b.Super && slices.Equal(a.Fields, b.Fields) && slices.Equal(a.Table, b.Table)
}

func sameFunc(a, b api.Func) bool {
	return a.Class == b.Class && a.Name == b.Name && a.Desc == b.Desc && a.Static == b.Static && a.Ret == b.Ret &&
		a.Stack == b.Stack && a.Locals == b.Locals && a.Slot == b.Slot &&
		slices.Equal(a.Args, b.Args) && slices.Equal(a.Ops, b.Ops) && slices.Equal(a.Catches, b.Catches)
}

// Clone is the same program in memory of its own.
func Clone(p api.Program) api.Program {
	p.Classes = cloneEach(p.Classes, cloneKlass)
	p.Funcs = cloneEach(p.Funcs, cloneFunc)
	p.Statics = slices.Clone(p.Statics)
	p.Types = slices.Clone(p.Types)
	return p
}

func cloneKlass(k api.Klass) api.Klass {
	k.Fields = slices.Clone(k.Fields)
	k.Table = slices.Clone(k.Table)
	return k
}

func cloneFunc(f api.Func) api.Func {
	f.Args = slices.Clone(f.Args)
	f.Ops = slices.Clone(f.Ops)
	f.Catches = slices.Clone(f.Catches)
	return f
}

// cloneEach is a list of the clones of what stands in one.
func cloneEach[T any](l []T, clone func(T) T) []T {
	l = slices.Clone(l)
	for i, x := range l {
		l[i] = clone(x)
	}
	return l
}
