package classfile

import (
	"tabard/api"
	"tabard/cpool"
)

// builder adds to a pool, up to the first error.
type builder struct {
	pool  []api.Const
	fault api.Errno
}

// text is the index of a text, class that of the class of a name.
func (p *builder) text(s string) int { return p.add(utf8(s)) }

func (p *builder) class(name string) int {
	return p.add(api.Const{Tag: api.TagClass, A: p.text(name)})
}

func (p *builder) add(c api.Const) int {
	if p.fault != api.OK {
		return 0
	}
	l, i, e := cpool.Add(p.pool, c)
	p.pool, p.fault = l, e
	return i
}

func utf8(s string) api.Const { return api.Const{Tag: api.TagUtf8, Text: s} }
