package classfile

import (
	"bytes"

	"tabard/api"
	"tabard/cpool"
)

// reader goes through bytes from the left; where they can't be read, it panics with the error.
type reader struct {
	left []byte
	code int // the Code index; nought, if there is none
}

// attempt is the class, or the error that its reading gave up with.
func (r *reader) attempt() (c api.Class, e api.Errno) {
	defer func() {
		fault := recover()
		if said, is := fault.(api.Errno); is {
			e = said
		} else if fault != nil {
			panic(fault)
		}
	}()
	return r.class(), api.OK
}

func (r *reader) class() api.Class {
	var c api.Class
	r.want(r.u4() == magic, api.ErrMagic)
	c.Minor = r.u2()
	c.Major = r.u2()
	r.want(isVersion(c.Minor, c.Major), api.ErrVersion)
	c.Pool = r.pool()
	r.code, _ = cpool.Find(c.Pool, utf8(codeName))
	c.Access = r.u2()
	c.This = r.u2()
	c.Super = r.u2()
	r.none()
	c.Fields = list(r, (*reader).field)
	c.Methods = list(r, (*reader).method)
	r.none()
	r.want(len(r.left) == 0, api.ErrLeft)
	return c
}

func (r *reader) pool() []api.Const {
	l, n, e := cpool.Take(r.left)
	r.want(e == api.OK, e)
	r.left = r.left[n:]
	return l
}

// list are as many things as the number ahead of them says.
func list[T any](r *reader, next func(*reader) T) []T {
	n := r.u2()
	// It grows with what is read, so that a few bytes cannot ask for much memory.
	var l []T
	for range n {
		l = append(l, next(r))
	}
	return l
}

func (r *reader) field() api.Member {
	m := r.member()
	r.none()
	return m
}

func (r *reader) method() api.Member {
	m := r.member()
	r.want(r.u2() == 1, api.ErrAttr)
	at := r.u2()
	r.want(at == r.code && at != 0, api.ErrAttr)
	size := r.u4()
	whole := r.left
	m.Stack = r.u2()
	m.Locals = r.u2()
	m.Code = bytes.Clone(r.take(r.u4()))
	m.Handlers = list(r, (*reader).handler)
	r.none()
	r.want(size == int64(len(whole)-len(r.left)), api.ErrAttr)
	return m
}

// member is what fields and methods have alike.
func (r *reader) member() api.Member {
	return api.Member{Access: r.u2(), Name: r.u2(), Desc: r.u2()}
}

func (r *reader) handler() api.Handler {
	return api.Handler{From: r.u2(), To: r.u2(), At: r.u2(), Type: r.u2()}
}

// none reads how many interfaces or attributes there are: there must be none.
func (r *reader) none() { r.want(r.u2() == 0, api.ErrAttr) }

// want gives up, if something is not so.
func (r *reader) want(is bool, e api.Errno) {
	if !is {
		panic(e)
	}
}

func (r *reader) u2() int {
	b := r.take(2)
	return int(b[0])<<8 | int(b[1])
}

// u4 is wider than int may be.
func (r *reader) u4() int64 {
	high := r.u2()
	return int64(high)<<16 | int64(r.u2())
}

// take are the next bytes.
func (r *reader) take(n int64) []byte {
	r.want(n <= int64(len(r.left)), api.ErrEnds)
	b := r.left[:n]
	r.left = r.left[n:]
	return b
}
