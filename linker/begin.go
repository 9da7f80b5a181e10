package linker

import (
	"tabard/api"
	"tabard/classfile"
	"tabard/desc"
	"tabard/hier"
	"tabard/layout"
)

// Names that have a meaning of their own.
const (
	sysName   = "Sys" // a class that is built in, but stands in no hierarchy
	mainClass = "Main"
	mainName  = "main" // of the method that begins
	mainDesc  = "()I"
)

// linker makes a program out of class files that may be, each for itself and together.
type linker struct {
	hier   *hier.Hier
	layout *layout.Layout
	rules  map[int]rule     // by opcodes
	places map[api.Type]int // in the program's Types
	made   api.Program
}

// decodeAll are the classes of all files; or the first file that is none, and why.
func decodeAll(files [][]byte) ([]api.Class, int, api.Errno) {
	var all []api.Class
	for i, b := range files {
		c, e := classfile.Decode(b)
		if e != api.OK {
			return nil, i, e
		}
		all = append(all, c)
	}
	return all, 0, api.OK
}

// begin is a linker that has all classes and methods, but not yet what these do.
func begin(classes []api.Class) (*linker, api.Errno) {
	h, e := hier.New(lines(classes)...)
	if e != api.OK {
		return nil, e
	}
	if _, is := h.Find(sysName); is {
		return nil, api.ErrMain
	}
	l, e := layout.New(h, classes...)
	if e != api.OK {
		return nil, e
	}
	return &linker{
		hier:   h,
		layout: l,
		rules:  rules(),
		places: map[api.Type]int{},
		made:   api.Program{Classes: l.Klasses(), Statics: l.Statics(), Funcs: declared(l, classes)},
	}, api.OK
}

// lines are classes' names and supers.
func lines(classes []api.Class) []api.Line {
	var all []api.Line
	for _, c := range classes {
		this, _ := classfile.This(c)
		super, _ := classfile.Super(c)
		all = append(all, api.Line{Name: this, Super: super})
	}
	return all
}

// declared are all methods, by the numbers that the layout gives them, without what they do: each may be called ahead of where it stands.
func declared(l *layout.Layout, classes []api.Class) []api.Func {
	var all []api.Func
	for number := range l.Funcs() {
		s, _ := l.Func(number)
		c := classes[s.Class-api.BuiltIn]
		f := declare(c, c.Methods[s.Method])
		f.Class = s.Class
		f.Slot = l.Slot(number)
		all = append(all, f)
	}
	return all
}

// declare is what a class file itself says of a method, but for what it does.
func declare(c api.Class, m api.Member) api.Func {
	n, _ := classfile.Member(c, m)
	args, ret, _ := desc.Method(n.Desc)
	static := m.Access&api.AccStatic != 0
	if !static {
		this, _ := classfile.This(c)
		args = append([]api.Type{reference(this)}, args...)
	}
	return api.Func{
		Name:   n.Name,
		Desc:   n.Desc,
		Static: static,
		Args:   args,
		Ret:    ret,
		Stack:  m.Stack,
		Locals: m.Locals,
	}
}

func reference(name string) api.Type { return api.Type{Kind: api.TyRef, Name: name} }

// findMain finds the method that begins. One that is inherited is none.
func (l *linker) findMain() api.Errno {
	class, is := l.hier.Find(mainClass)
	if !is {
		return api.ErrMain
	}
	s, is := l.layout.Method(class, mainName, mainDesc)
	if !is || s.Class != class || !l.made.Funcs[s.Number].Static {
		return api.ErrMain
	}
	l.made.Main = s.Number
	return api.OK
}

// place is where a type stands in the program's Types: it is put there when it is first asked for.
func (l *linker) place(t api.Type) int {
	n, is := l.places[t]
	if !is {
		n = len(l.made.Types)
		l.places[t] = n
		l.made.Types = append(l.made.Types, t)
	}
	return n
}
