package verify

import (
	"tabard/api"
	"tabard/typing"
	"tabard/vtype"
)

// joiner is how two shapes of a program's methods are joined.
type joiner func(a, b api.Shape) (api.Shape, bool)

// joins makes the hierarchy of a program's classes once for all that is joined.
func joins(p api.Program) joiner {
	classes := typing.Hier(p)
	return func(a, b api.Shape) (api.Shape, bool) { return vtype.JoinAll(classes, a, b) }
}

// search is the search for a method's table: what is known so far, and which places wait.
type search struct {
	join    joiner
	table   []api.Known
	sound   []bool // of each place, whether its types are known to be such as may be: others are not even joined with themselves
	waiting waiting
}

// method is Method, with a joiner of the program's.
func method(p api.Program, f int, join joiner) ([]api.Known, int, api.Errno) {
	n := operations(p, f)
	if n == 0 { // There is no operation 0, which Step would refuse so.
		return nil, 0, api.ErrArg
	}
	s := search{join: join, table: make([]api.Known, n), sound: make([]bool, n)}
	s.comes(api.Flow{To: 0, Shape: typing.First(p, f)})
	for {
		place, is := s.waiting.next()
		if !is {
			return s.table, 0, api.OK
		}
		flows, e := typing.Step(p, f, place, s.table[place].Shape)
		if e != api.OK {
			return nil, place, e
		}
		s.sound[place] = true
		if at, e := s.allCome(flows); e != api.OK {
			return nil, at, e
		}
	}
}

// operations is how many operations a method has; none, if there is no such method.
func operations(p api.Program, f int) int {
	if f < 0 || f >= len(p.Funcs) {
		return 0
	}
	return len(p.Funcs[f].Ops)
}

// allCome adds what flows tell to what is known; or tells the place at which it can't be joined.
func (s *search) allCome(flows []api.Flow) (int, api.Errno) {
	for _, x := range flows {
		if !s.comes(x) {
			return x.To, api.ErrJoin
		}
	}
	return 0, api.OK
}

// comes adds what a flow tells to what is known at its place; false, if they can't be joined.
func (s *search) comes(x api.Flow) bool {
	if !s.table[x.To].Is {
		s.becomes(x)
		return true
	}
	there := s.table[x.To].Shape
	// A handler is told the same by each operation that it covers, and to join takes far longer than to see that.
	if s.sound[x.To] && vtype.Same(there, x.Shape) {
		return true
	}
	joined, is := s.join(there, x.Shape)
	if !is {
		return false
	}
	s.sound[x.To] = true
	if !vtype.Same(joined, there) {
		s.becomes(api.Flow{To: x.To, Shape: joined})
	}
	return true
}

// becomes makes known what a flow tells, whose place then waits.
func (s *search) becomes(x api.Flow) {
	s.table[x.To] = api.Known{Is: true, Shape: x.Shape}
	s.waiting.add(x.To)
}
