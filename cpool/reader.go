package cpool

import "tabard/api"

// reader goes through bytes from the left; where they can't be read, it panics with the error.
type reader struct {
	left []byte
}

// attempt is the pool, or the error that its reading gave up with.
func (r *reader) attempt() (l []api.Const, e api.Errno) {
	defer func() {
		fault := recover()
		if said, is := fault.(api.Errno); is {
			e = said
		} else if fault != nil {
			panic(fault)
		}
	}()
	return r.pool(), api.OK
}

func (r *reader) pool() []api.Const {
	n := int(r.number(countBytes))
	if n > api.MaxPool {
		panic(api.ErrLong)
	}
	if n == 0 {
		return nil
	}
	// It grows with what is read, so that a few bytes cannot ask for much memory.
	l := []api.Const{{}}
	for len(l) < n {
		l = appendEntry(l, r.entry(n-len(l)))
	}
	return l
}

// entry is the next entry, if there is room for so many.
func (r *reader) entry(room int) api.Const {
	c := api.Const{Tag: int(r.number(1))}
	w, is := widthsOf(c.Tag)
	if !is || c.Tag == api.TagLong && room < 2 {
		panic(api.ErrTag)
	}
	c.Text = r.text(w.text)
	c.N = signed(r.number(w.n), w.n)
	c.A = int(r.number(w.a))
	c.B = int(r.number(w.b))
	return c
}

// text is a text whose length has so many bytes; of none it is empty.
func (r *reader) text(size int) string {
	n := int(r.number(size))
	if n > api.MaxText {
		panic(api.ErrUtf)
	}
	s := string(r.take(n))
	if !isPlain(s) {
		panic(api.ErrUtf)
	}
	return s
}

// number is the number that so many bytes say, without a sign; of eight it may have come round to one.
func (r *reader) number(size int) int64 {
	var n int64
	for _, x := range r.take(size) {
		n = n<<8 | int64(x)
	}
	return n
}

// take are the next bytes.
func (r *reader) take(n int) []byte {
	if len(r.left) < n {
		panic(api.ErrEnds)
	}
	b := r.left[:n]
	r.left = r.left[n:]
	return b
}
