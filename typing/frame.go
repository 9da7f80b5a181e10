package typing

import "tabard/api"

// frame is a shape while an operation works on it. What can't go on panics with its error.
type frame api.Shape

// take takes the topmost type off the stack, which must be such.
func (f *frame) take(such func(api.Type) bool) api.Type {
	last := len(f.Stack) - 1
	if last < 0 {
		panic(api.ErrUnder)
	}
	t := f.Stack[last]
	if !such(t) {
		panic(api.ErrType)
	}
	f.Stack = f.Stack[:last]
	return t
}

// put puts types on the stack, the last one on top.
func (f *frame) put(l ...api.Type) { f.Stack = append(f.Stack, l...) }

// local is the type of a local, which must be such.
func (f *frame) local(n int, such func(api.Type) bool) api.Type {
	t := at(f.Locals, n)
	if !such(t) {
		panic(api.ErrVar)
	}
	return t
}

// store makes a local another type. A long of which that was the second half is none any more.
func (f *frame) store(n int, t api.Type) {
	if isLong(at(f.Locals, n-1)) {
		f.become(n-1, top())
	}
	f.become(n, t)
	if isLong(t) {
		f.become(n+1, top())
	}
}

// become makes a local another type, if there is such a local.
func (f *frame) become(n int, t api.Type) {
	if has(f.Locals, n) {
		f.Locals[n] = t
	}
}
