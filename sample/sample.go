// Package sample has programs that are written as texts: the tests of the layers work on these.
package sample

import (
	"strings"

	"tabard/api"
	"tabard/linker"
)

// Object and Throwable are names of classes that every program has.
const Object, Throwable = "java/lang/Object", "java/lang/Throwable"

// Class is a class by texts: B:A is B under A, B alone is B under java/lang/Object; fields are names and descriptors, with static ahead of them or not.
type Class struct {
	Name    string
	Fields  []string
	Methods []Method
}

// Method is a method by texts: its name and its descriptor, with static ahead of them or not; instructions have a | between them, and labels ahead of them, each with a colon; handlers are three labels and a class, or none. The label end is behind the last instruction.
type Method struct {
	What          string
	Stack, Locals int
	Code          string
	Handlers      []string
}

// Main is a class Main whose main has a stack, locals, and a code.
func Main(stack, locals int, code string) Class {
	return Class{Name: "Main", Methods: []Method{{What: "static main ()I", Stack: stack, Locals: locals, Code: code}}}
}

// Link is the program of classes, and of one Main behind them whose main returns at once. What is no such program, panics: a test has it wrong.
func Link(l ...Class) api.Program {
	return LinkAll(append(l[:len(l):len(l)], Main(1, 0, "iconst_3 | ireturn"))...)
}

// LinkAll is Link of the classes alone.
func LinkAll(l ...Class) api.Program {
	var files [][]byte
	for _, x := range l {
		files = append(files, x.File())
	}
	p, _, e := linker.Link(files...)
	ok(e, "Link")
	return p
}

// Named is the number of a method with a name such as S.f()V.
func Named(p api.Program, name string) int {
	for n := range p.Funcs {
		if linker.Name(p, n) == name {
			return n
		}
	}
	panic("no method " + name)
}

// Member is the access, the name and the descriptor in a member's text.
func Member(s string) (int, string, string) {
	rest, static := strings.CutPrefix(s, "static ")
	name, desc, _ := strings.Cut(rest, " ")
	if static {
		return api.AccStatic, name, desc
	}
	return 0, name, desc
}

// Numbers tells numbers that look as if they were in no order: the same ones each time.
type Numbers uint64

// Below is a number from 0 on that is less than n.
func (r *Numbers) Below(n int) int {
	*r = *r*6364136223846793005 + 1442695040888963407
	return int(uint64(*r) >> 33 % uint64(n))
}
