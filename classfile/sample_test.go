package classfile_test

import (
	"strings"

	"tabard/api"
)

// Indices of sample's pool.
const (
	atA       = 2
	atAClass  = 3
	atX       = 6
	atJ       = 7
	atF       = 8
	atFDesc   = 9
	atInit    = 10
	atVoid    = 11
	atI       = 12
	atXAgain  = 14
	atJAgain  = 15
	atFAgain  = 16
	atFDAgain = 17
	atBad     = 18 // no name, and no descriptor
	atBadCl   = 19
	atLong    = 20
	atInt     = 22
	atIntCl   = 23
	atNothing = 24 // the empty text
	atNothCl  = 25
	atArray   = 26 // a descriptor that is no name
	atArrCl   = 27
	atWide    = 28 // a method with many arguments
	atFarCl   = 29 // a class whose name is at no index
	atOdd     = 30 // a part of a name that is no name of a class
	atOddCl   = 31
	atNotV    = 32
	poolSize  = 33
)

// sample is a class that may be, with something of each kind, and with entries that nothing names yet.
func sample() api.Class {
	return api.Class{
		Major: 52,
		Pool: pool(
			utf("Code"), utf("A"), class(2), utf("java/lang/Object"), class(4), // 1 to 5
			utf("x"), utf("J"), utf("f"), utf("(I)I"), utf("<init>"), utf("()V"), utf("I"), // 6 to 12
			utf("Code"), utf("x"), utf("J"), utf("f"), utf("(I)I"), // 13 to 17: again
			utf("a.b"), class(18), long(7), none, num(7), class(22), utf(""), class(24), utf("[J"), class(26), // 18 to 27
			utf("("+strings.Repeat("J", 32)+")V"), class(99), utf("a/"), class(30), utf("()I"), // 28 to 32
		),
		Access:  api.AccPublic | api.AccSuper,
		This:    3,
		Super:   5,
		Fields:  []api.Member{{Access: api.AccPublic, Name: atX, Desc: atJ}, {Access: api.AccStatic, Name: atX, Desc: atI}},
		Methods: []api.Member{constructor(), method()},
	}
}

// constructor is sample's first method, method its second.
func constructor() api.Member {
	return api.Member{Access: api.AccPublic, Name: atInit, Desc: atVoid, Stack: 1, Locals: 1, Code: []byte{177}}
}

func method() api.Member {
	// iload_0, bipush 1, iadd, ireturn.
	return api.Member{Access: api.AccStatic, Name: atF, Desc: atFDesc, Stack: 2, Locals: 1, Code: []byte{26, 16, 1, 96, 172}, Handlers: []api.Handler{{From: 0, To: 5, At: 4}, {From: 1, To: 3, At: 0, Type: atAClass}}}
}
