package linker

import (
	"tabard/api"
	"tabard/cpool"
	"tabard/opcode"
)

// body is a method whose instructions are being linked.
type body struct {
	*linker
	pool   []api.Const
	locals int
	// found is what instructions with an index of the pool have become. That hangs on the class file alone, so that alike ones of all its methods are looked for once, however many classes stand above the one that they name.
	found map[api.Instr]api.Op
}

// linkAll links the methods of all classes; or tells which class has the first one that may not be, and why.
func (l *linker) linkAll(classes []api.Class) (int, api.Errno) {
	left := l.made.Funcs
	for i, c := range classes {
		n := len(c.Methods)
		if e := l.linkFile(c, left[:n]); e != api.OK {
			return i, e
		}
		left = left[n:]
	}
	return 0, api.OK
}

// linkFile says of a class's methods what they do.
func (l *linker) linkFile(c api.Class, funcs []api.Func) api.Errno {
	b := &body{linker: l, pool: c.Pool, found: map[api.Instr]api.Op{}}
	for i, m := range c.Methods {
		b.locals = m.Locals
		var e api.Errno
		if funcs[i].Catches, e = b.catches(m.Handlers); e != api.OK {
			return e
		}
		if funcs[i].Ops, e = b.ops(m.Code); e != api.OK {
			return e
		}
	}
	return api.OK
}

func (b *body) catches(handlers []api.Handler) ([]api.Catch, api.Errno) {
	var all []api.Catch
	for _, h := range handlers {
		class := api.ClThrowable
		if h.Type != 0 {
			n, is := b.classAt(h.Type)
			if !is || !b.hier.Under(n, api.ClThrowable) {
				return nil, api.ErrCatch
			}
			class = n
		}
		all = append(all, api.Catch{From: h.From, To: h.To, At: h.At, Class: class})
	}
	return all, api.OK
}

// classAt is the class of the hierarchy that the entry at an index of the pool names.
func (b *body) classAt(i int) (int, bool) {
	name, e := cpool.Class(b.pool, i)
	if e != api.OK {
		return 0, false
	}
	return b.hier.Find(name)
}

func (b *body) ops(code []byte) ([]api.Op, api.Errno) {
	l, _ := opcode.Decode(code)
	all := make([]api.Op, 0, len(l))
	for _, x := range l {
		op, e := b.op(x)
		if e != api.OK {
			return nil, e
		}
		all = append(all, op)
	}
	return all, api.OK
}

// op is what an instruction becomes.
func (b *body) op(x api.Instr) (api.Op, api.Errno) {
	alike := x
	alike.At = 0
	op, is := b.found[alike]
	if !is {
		var e api.Errno
		r := b.rules[x.Op]
		if op, e = r.become(b, r, x); e != api.OK {
			return api.Op{}, e
		}
		if form, _ := opcode.Form(x.Op); form == api.FoIndex {
			b.found[alike] = op
		}
	}
	op.At = x.At
	return op, api.OK
}
