package linker

import (
	"strings"

	"tabard/api"
	"tabard/cpool"
	"tabard/desc"
)

const (
	bracket      = "[" // ahead of an array's descriptor
	arrayOfInts  = "[I"
	arrayOfLongs = "[J"
	longs        = 11 // what newarray has of longs
)

const (
	initName = "<init>"
	initDesc = "()V" // of the constructor of a class that is built in
)

// static is of a static field.
func (b *body) static(r rule, x api.Instr) (api.Op, api.Errno) {
	_, p, e := b.field(x.A)
	if e != api.OK {
		return api.Op{}, e
	}
	if !p.Static {
		return api.Op{}, api.ErrStatic
	}
	return api.Op{Kind: r.kind, A: p.N}, api.OK
}

// inside is of a field of an object.
func (b *body) inside(r rule, x api.Instr) (api.Op, api.Errno) {
	class, p, e := b.field(x.A)
	if e != api.OK {
		return api.Op{}, e
	}
	if p.Static {
		return api.Op{}, api.ErrStatic
	}
	return api.Op{Kind: r.kind, A: p.N, N: int64(class)}, api.OK
}

// field is the class that an entry of the pool names, and where the field is that it names there.
func (b *body) field(i int) (int, api.Place, api.Errno) {
	n, e := cpool.Ref(b.pool, i, api.TagField)
	if e != api.OK {
		return 0, api.Place{}, api.ErrResolve
	}
	class, is := b.hier.Find(n.Class)
	if !is {
		return 0, api.Place{}, api.ErrResolve
	}
	p, is := b.layout.Field(class, n.Name, n.Desc)
	if !is {
		return 0, api.Place{}, api.ErrResolve
	}
	return class, p, api.OK
}

// call is of a method, wherever it is.
func (b *body) call(r rule, x api.Instr) (api.Op, api.Errno) {
	n, e := cpool.Ref(b.pool, x.A, api.TagMethod)
	if e != api.OK {
		return api.Op{}, api.ErrResolve
	}
	if n.Class == sysName {
		return callSys(r, n)
	}
	class, is := b.hier.Find(n.Class)
	if !is {
		return api.Op{}, api.ErrResolve
	}
	// Such a constructor has nothing to do, but the object is taken.
	if r.kind == api.KCallSpec && n.Name == initName && n.Desc == initDesc && class < api.BuiltIn {
		return api.Op{Kind: api.KPop}, api.OK
	}
	s, is := b.layout.Method(class, n.Name, n.Desc)
	if !is {
		return api.Op{}, api.ErrResolve
	}
	if !b.mayCall(r.kind, s, n.Name) {
		return api.Op{}, api.ErrStatic
	}
	return api.Op{Kind: r.kind, A: s.Number}, api.OK
}

// callSys is of a method of Sys. A name and a descriptor need not be ones in an entry: together they are the text, wherever the name ends.
func callSys(r rule, n api.Named) (api.Op, api.Errno) {
	var kind int
	switch n.Name + n.Desc {
	case "out(I)V":
		kind = api.KOut
	case "outl(J)V":
		kind = api.KOutL
	case "in()I":
		kind = api.KIn
	default:
		return api.Op{}, api.ErrResolve
	}
	if r.kind != api.KCallStat {
		return api.Op{}, api.ErrStatic
	}
	return api.Op{Kind: kind}, api.OK
}

// mayCall tells whether a call of such a kind may name a method.
func (b *body) mayCall(kind int, s api.Spot, name string) bool {
	if name == initName {
		return kind == api.KCallSpec
	}
	return b.made.Funcs[s.Number].Static == (kind == api.KCallStat)
}

// object is of a new object.
func (b *body) object(r rule, x api.Instr) (api.Op, api.Errno) {
	class, is := b.classAt(x.A)
	if !is {
		return api.Op{}, api.ErrResolve
	}
	return api.Op{Kind: r.kind, A: class}, api.OK
}

// numbers is of a new array of ints or longs.
func (b *body) numbers(r rule, x api.Instr) (api.Op, api.Errno) {
	name := arrayOfInts
	if x.A == longs {
		name = arrayOfLongs
	}
	return b.ofType(r, reference(name))
}

// array is of a new array of what an entry of the pool names, typed of that itself.
func (b *body) array(r rule, x api.Instr) (api.Op, api.Errno) {
	elem, e := b.typeAt(x.A)
	if e != api.OK {
		return api.Op{}, e
	}
	t, e := desc.Array(elem)
	if e != api.OK {
		return api.Op{}, api.ErrResolve
	}
	return b.ofType(r, t)
}

func (b *body) typed(r rule, x api.Instr) (api.Op, api.Errno) {
	t, e := b.typeAt(x.A)
	if e != api.OK {
		return api.Op{}, e
	}
	return b.ofType(r, t)
}

// typeAt is the type of the class, or of the array, that the entry at an index names.
func (b *body) typeAt(i int) (api.Type, api.Errno) {
	name, e := cpool.Class(b.pool, i)
	if e != api.OK {
		return api.Type{}, api.ErrResolve
	}
	t, e := desc.Class(name)
	if e != api.OK {
		return api.Type{}, api.ErrResolve
	}
	return t, api.OK
}

// ofType is an operation of a type that there must be.
func (b *body) ofType(r rule, t api.Type) (api.Op, api.Errno) {
	if !b.isThere(t) {
		return api.Op{}, api.ErrResolve
	}
	return api.Op{Kind: r.kind, A: b.place(t)}, api.OK
}

// isThere tells whether a class is one of the hierarchy, or an array's elements are, and it has no more dimensions than may be.
func (b *body) isThere(t api.Type) bool {
	last := strings.TrimLeft(t.Name, bracket)
	dims := len(t.Name) - len(last)
	if dims > api.MaxDims {
		return false
	}
	if dims > 0 {
		elem, _ := desc.Field(last)
		if elem.Kind != api.TyRef {
			return true
		}
		last = elem.Name
	}
	_, is := b.hier.Find(last)
	return is
}
