package classfile_test

import (
	"encoding/binary"
	"slices"

	"tabard/api"
	"tabard/cpool"
	"tabard/desc"
	"tabard/opcode"
)

// Short for entries.
var none = api.Const{}

func utf(s string) api.Const          { return api.Const{Tag: api.TagUtf8, Text: s} }
func class(a int) api.Const           { return api.Const{Tag: api.TagClass, A: a} }
func num(n int64) api.Const           { return api.Const{Tag: api.TagInt, N: n} }
func long(n int64) api.Const          { return api.Const{Tag: api.TagLong, N: n} }
func pool(l ...api.Const) []api.Const { return append([]api.Const{none}, l...) }

// meantName is what the document says of a class entry that must name a class.
func meantName(c api.Class, i int) api.Errno {
	if i < 0 || i >= len(c.Pool) || c.Pool[i].Tag != 7 {
		return api.ErrPool
	}
	s, e := meantText(c, c.Pool[i].A)
	if e != api.OK {
		return e
	}
	return desc.ClassName(s)
}

func meantText(c api.Class, i int) (string, api.Errno) {
	if i < 0 || i >= len(c.Pool) || c.Pool[i].Tag != 1 {
		return "", api.ErrPool
	}
	return c.Pool[i].Text, api.OK
}

// meantCheck is what the document says of Check.
func meantCheck(c api.Class) api.Errno {
	if c.Minor != 0 || c.Major < 45 || c.Major > 52 {
		return api.ErrVersion
	}
	if e := cpool.Check(c.Pool); e != api.OK {
		return e
	}
	if !slices.Contains([]int{0, 1, 32, 33}, c.Access) {
		return api.ErrAccess
	}
	for _, i := range []int{c.This, c.Super} {
		if e := meantName(c, i); e != api.OK {
			return e
		}
	}
	if len(c.Fields) > 256 || len(c.Methods) > 256 {
		return api.ErrLong
	}
	for i := range c.Fields {
		if e := meantField(c, i); e != api.OK {
			return e
		}
	}
	for i := range c.Methods {
		if e := meantMethod(c, i); e != api.OK {
			return e
		}
	}
	if len(c.Methods) > 0 && !slices.Contains(c.Pool, utf("Code")) {
		return api.ErrAttr
	}
	return api.OK
}

// meantMember is what is asked of fields and methods alike, ahead of the descriptor.
func meantMember(c api.Class, m api.Member) (name, d string, e api.Errno) {
	if !slices.Contains([]int{0, 1, 8, 9}, m.Access) {
		return "", "", api.ErrAccess
	}
	if name, e = meantText(c, m.Name); e != api.OK {
		return "", "", e
	}
	if d, e = meantText(c, m.Desc); e != api.OK {
		return "", "", e
	}
	return name, d, desc.MemberName(name)
}

// isTwice tells whether a member ahead of one has its name and its descriptor.
func isTwice(c api.Class, l []api.Member, i int) bool {
	for _, m := range l[:i] {
		if c.Pool[m.Name].Text == c.Pool[l[i].Name].Text && c.Pool[m.Desc].Text == c.Pool[l[i].Desc].Text {
			return true
		}
	}
	return false
}

func meantField(c api.Class, i int) api.Errno {
	m := c.Fields[i]
	name, d, e := meantMember(c, m)
	if e != api.OK {
		return e
	}
	if _, e := desc.Field(d); e != api.OK {
		return e
	}
	if name == "<init>" || m.Stack != 0 || m.Locals != 0 || len(m.Code) != 0 || len(m.Handlers) != 0 {
		return api.ErrMember
	}
	if isTwice(c, c.Fields, i) {
		return api.ErrTwice
	}
	return api.OK
}

func meantMethod(c api.Class, i int) api.Errno {
	m := c.Methods[i]
	name, d, e := meantMember(c, m)
	if e != api.OK {
		return e
	}
	args, ret, e := desc.Method(d)
	if e != api.OK {
		return e
	}
	if isTwice(c, c.Methods, i) {
		return api.ErrTwice
	}
	static := m.Access == 8 || m.Access == 9
	if name == "<init>" && (static || ret != api.Type{}) {
		return api.ErrMember
	}
	if m.Stack < 0 || m.Stack > 64 || m.Locals < 0 || m.Locals > 64 {
		return api.ErrLong
	}
	slots := desc.Slots(args...)
	if !static {
		slots += 1
	}
	if slots > m.Locals {
		return api.ErrMember
	}
	return meantCode(c, m)
}

func meantCode(c api.Class, m api.Member) api.Errno {
	if _, e := opcode.Decode(m.Code); e != api.OK {
		return e
	}
	if len(m.Handlers) > 64 {
		return api.ErrLong
	}
	var begins []int
	for at := range opcode.Walk(m.Code) {
		begins = append(begins, at)
	}
	ends := append(slices.Clone(begins), len(m.Code))
	for _, h := range m.Handlers {
		if h.From >= h.To || !slices.Contains(begins, h.From) || !slices.Contains(begins, h.At) || !slices.Contains(ends, h.To) {
			return api.ErrHandler
		}
		if h.Type != 0 {
			if e := meantName(c, h.Type); e != api.OK {
				return e
			}
		}
	}
	return api.OK
}

// meantBytes are the bytes of a class, whether or not it may be; what two bytes can't say is cut.
func meantBytes(c api.Class) []byte {
	pool, _ := cpool.Put(c.Pool...)
	code := max(0, slices.Index(c.Pool, utf("Code")))
	b := []byte{0xCA, 0xFE, 0xBA, 0xBE}
	b = twos(b, c.Minor, c.Major)
	b = append(b, pool...)
	b = twos(b, c.Access, c.This, c.Super, 0, len(c.Fields))
	for _, m := range c.Fields {
		b = twos(b, m.Access, m.Name, m.Desc, 0)
	}
	b = twos(b, len(c.Methods))
	for _, m := range c.Methods {
		b = twos(b, m.Access, m.Name, m.Desc, 1, code)
		b = binary.BigEndian.AppendUint32(b, uint32(2+2+4+len(m.Code)+2+8*len(m.Handlers)+2))
		b = twos(b, m.Stack, m.Locals)
		b = binary.BigEndian.AppendUint32(b, uint32(len(m.Code)))
		b = append(b, m.Code...)
		b = twos(b, len(m.Handlers))
		for _, h := range m.Handlers {
			b = twos(b, h.From, h.To, h.At, h.Type)
		}
		b = twos(b, 0)
	}
	return twos(b, 0)
}

// twos puts numbers of two bytes behind b.
func twos(b []byte, l ...int) []byte {
	for _, n := range l {
		b = binary.BigEndian.AppendUint16(b, uint16(n))
	}
	return b
}

// scan goes through bytes for meantDecode; from its first error on it tells noughts.
type scan struct {
	b  []byte
	at int
	e  api.Errno
}

func (s *scan) number(size int) int {
	b := s.bytes(size)
	n := 0
	for _, x := range b {
		n = n*256 + int(x)
	}
	return n
}

func (s *scan) bytes(size int) []byte {
	if s.e == api.OK && len(s.b)-s.at < size {
		s.e = api.ErrEnds
	}
	if s.e != api.OK {
		return nil
	}
	s.at += size
	return slices.Clone(s.b[s.at-size : s.at])
}

// refuse has an error from now on, if there was none and something is so.
func (s *scan) refuse(is bool, e api.Errno) {
	if is && s.e == api.OK {
		s.e = e
	}
}

// meantDecode is what the document says of Decode.
func meantDecode(b []byte) (api.Class, api.Errno) {
	if len(b) > 65536 {
		return api.Class{}, api.ErrLong
	}
	s := &scan{b: b}
	c := s.class()
	if s.e == api.OK {
		s.e = meantCheck(c)
	}
	if s.e != api.OK {
		return api.Class{}, s.e
	}
	return c, api.OK
}

func (s *scan) class() api.Class {
	var c api.Class
	s.refuse(s.number(4) != 0xCAFEBABE, api.ErrMagic)
	c.Minor, c.Major = s.number(2), s.number(2)
	s.refuse(c.Minor != 0 || c.Major < 45 || c.Major > 52, api.ErrVersion)
	if s.e != api.OK {
		return c
	}
	l, n, e := cpool.Take(s.b[s.at:])
	if s.e = e; e != api.OK {
		return c
	}
	c.Pool, s.at = l, s.at+n
	c.Access, c.This, c.Super = s.number(2), s.number(2), s.number(2)
	s.refuse(s.number(2) != 0, api.ErrAttr)
	for range s.number(2) {
		m := api.Member{Access: s.number(2), Name: s.number(2), Desc: s.number(2)}
		s.refuse(s.number(2) != 0, api.ErrAttr)
		if s.e != api.OK {
			return c
		}
		c.Fields = append(c.Fields, m)
	}
	code := slices.Index(c.Pool, utf("Code"))
	for range s.number(2) {
		m := s.method(code)
		if s.e != api.OK {
			return c
		}
		c.Methods = append(c.Methods, m)
	}
	s.refuse(s.number(2) != 0, api.ErrAttr)
	s.refuse(s.at != len(s.b), api.ErrLeft)
	return c
}

func (s *scan) method(code int) api.Member {
	m := api.Member{Access: s.number(2), Name: s.number(2), Desc: s.number(2)}
	s.refuse(s.number(2) != 1, api.ErrAttr)
	s.refuse(s.number(2) != code, api.ErrAttr)
	size := s.number(4)
	from := s.at
	m.Stack, m.Locals = s.number(2), s.number(2)
	m.Code = s.bytes(s.number(4))
	for range s.number(2) {
		m.Handlers = append(m.Handlers, api.Handler{From: s.number(2), To: s.number(2), At: s.number(2), Type: s.number(2)})
		if s.e != api.OK {
			return m
		}
	}
	s.refuse(s.number(2) != 0, api.ErrAttr)
	s.refuse(s.at-from != size, api.ErrAttr)
	return m
}
