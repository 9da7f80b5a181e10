package desc

import (
	"strings"

	"tabard/api"
)

// Letters of descriptors that no type has for itself.
const (
	void    = 'V'
	object  = 'L'
	closing = ';' // of an object
	bracket = '[' // of an array
	open    = '('
	shut    = ')'
)

// letters are those of the kinds of types that a letter alone tells, kinds the other way round.
func letters() map[int]byte { return map[int]byte{api.TyInt: 'I', api.TyLong: 'J'} }

func kinds() map[byte]int { return map[byte]int{'I': api.TyInt, 'J': api.TyLong} }

// reader goes through a text from the left; where it can't be read, it panics with ErrDesc.
type reader struct {
	left  string
	kinds map[byte]int
}

// signature is what a method's descriptor says.
type signature struct {
	args []api.Type
	ret  api.Type
}

// whole is what a text says that is read up to its end.
func whole[T any](s string, read func(*reader) T) (said T, e api.Errno) {
	if len(s) > api.MaxText {
		return said, api.ErrLong
	}
	defer func() {
		fault := recover()
		if fault == api.ErrDesc {
			e = api.ErrDesc
		} else if fault != nil {
			panic(fault)
		}
	}()
	r := &reader{left: s, kinds: kinds()}
	x := read(r)
	if r.left != "" {
		panic(api.ErrDesc)
	}
	return x, api.OK
}

func (r *reader) field() api.Type {
	from := r.left
	letter := r.take()
	switch letter {
	case bracket:
		r.field()
		return reference(from[:len(from)-len(r.left)])
	case object:
		return reference(r.name())
	}
	kind, is := r.kinds[letter]
	if !is {
		panic(api.ErrDesc)
	}
	return api.Type{Kind: kind}
}

// name is a class's name, up to the mark that closes it, which is taken, too.
func (r *reader) name() string {
	s, behind, is := strings.Cut(r.left, string(closing))
	if !is || ClassName(s) != api.OK {
		panic(api.ErrDesc)
	}
	r.left = behind
	return s
}

func (r *reader) method() signature {
	var m signature
	if r.take() != open {
		panic(api.ErrDesc)
	}
	for !r.skip(shut) {
		m.args = append(m.args, r.field())
	}
	if r.skip(void) {
		m.ret = api.Type{Kind: api.TyTop}
	} else {
		m.ret = r.field()
	}
	return m
}

// take is the next letter.
func (r *reader) take() byte {
	if r.left == "" {
		panic(api.ErrDesc)
	}
	letter := r.left[0]
	r.left = r.left[1:]
	return letter
}

// skip goes over a letter, if it comes next, and tells whether it did.
func (r *reader) skip(letter byte) bool {
	if r.left == "" || r.left[0] != letter {
		return false
	}
	r.take()
	return true
}
