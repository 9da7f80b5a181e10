package cpool_test

import (
	"bytes"
	"math"
	"slices"
	"strings"
	"testing"

	"tabard/api"
	"tabard/cpool"
)

// index tells whether a number is one that two bytes can say.
func index(n int) bool { return 0 <= n && n <= 65535 }

// meantFault is what the document says of an entry that stands where it may, or of one that is to be added.
func meantFault(c api.Const) api.Errno {
	may := false
	switch c.Tag {
	case api.TagUtf8:
		may = c.N == 0 && c.A == 0 && c.B == 0
	case api.TagInt:
		may = c.Text == "" && c.A == 0 && c.B == 0 && math.MinInt32 <= c.N && c.N <= math.MaxInt32
	case api.TagLong:
		may = c.Text == "" && c.A == 0 && c.B == 0
	case api.TagClass:
		may = c.Text == "" && c.N == 0 && index(c.A) && c.B == 0
	case api.TagField, api.TagMethod, api.TagName:
		may = c.Text == "" && c.N == 0 && index(c.A) && index(c.B)
	}
	if !may {
		return api.ErrTag
	}
	if len(c.Text) > 255 || strings.ContainsFunc(c.Text, func(r rune) bool { return r == 0 || r > 127 }) {
		return api.ErrUtf
	}
	return api.OK
}

// meantCheck is what the document says of Check.
func meantCheck(l []api.Const) api.Errno {
	if len(l) > 4096 {
		return api.ErrLong
	}
	for i := 0; i < len(l); i++ {
		if i == 0 {
			if l[i] != none {
				return api.ErrTag
			}
			continue
		}
		if e := meantFault(l[i]); e != api.OK {
			return e
		}
		if l[i].Tag == api.TagLong {
			if i++; i == len(l) || l[i] != none {
				return api.ErrTag
			}
		}
	}
	return api.OK
}

// entries are such as may be, and then such as may not, one for each thing that may be wrong.
func entries() (good, bad []api.Const) {
	good = []api.Const{
		utf(""), utf("A"), utf("\x01\x7f"), utf(strings.Repeat("x", 255)), num(0), num(-1), num(math.MaxInt32), num(math.MinInt32), long(0), long(math.MaxInt64), long(math.MinInt64),
		class(0), class(1), class(65535), pair(9, 0, 0), pair(9, 65535, 65535), pair(10, 1, 2), pair(10, 65535, 0), pair(12, 0, 65535), pair(12, 3, 4),
	}
	bad = []api.Const{
		utf("\x00"), utf("\x80"), utf("A\x00"), utf("\u00e4"), utf("\xff"), utf(strings.Repeat("x", 256)), utf(strings.Repeat("x", 1<<20)), utf(strings.Repeat("\x00", 300)),
		num(math.MaxInt32 + 1), num(math.MinInt32 - 1), num(1 << 32), num(math.MaxInt64), num(math.MinInt64),
		class(-1), class(65536), class(1 << 32), class(math.MaxInt), class(math.MinInt),
		{Tag: api.TagUtf8, Text: "\x00", N: 1}, {Tag: api.TagUtf8, Text: strings.Repeat("x", 256), A: 1}, // ErrTag comes ahead of ErrUtf
		{N: 1}, {A: 1}, {B: 1}, {Text: "A"}, {Text: "\x00"},
	}
	for _, tag := range []int{api.TagField, api.TagMethod, api.TagName} {
		bad = append(bad, pair(tag, -1, 0), pair(tag, 0, -1), pair(tag, 65536, 0), pair(tag, 0, 65536), pair(tag, 1<<32, 0), pair(tag, 0, math.MinInt), api.Const{Tag: tag, A: 1, B: 2, N: 1}, api.Const{Tag: tag, A: 1, B: 2, Text: "A"})
	}
	for _, tag := range []int{-1, 2, 4, 6, 8, 11, 13, 15, 16, 18, 255, 256 + api.TagInt, 1<<32 + api.TagUtf8, -api.TagClass, math.MinInt, math.MaxInt} {
		bad = append(bad, api.Const{Tag: tag}, api.Const{Tag: tag, Text: "\x00"})
	}
	return good, append(bad, withMore()...)
}

// withMore are entries that have what their tags do not.
func withMore() []api.Const {
	return []api.Const{
		{Tag: api.TagUtf8, N: 1}, {Tag: api.TagUtf8, A: 1}, {Tag: api.TagUtf8, B: 1}, {Tag: api.TagUtf8, N: -1}, {Tag: api.TagUtf8, A: 1 << 32},
		{Tag: api.TagInt, Text: "A"}, {Tag: api.TagInt, A: 1}, {Tag: api.TagInt, B: 1}, {Tag: api.TagInt, Text: "\x00"},
		{Tag: api.TagLong, Text: "A"}, {Tag: api.TagLong, A: 1}, {Tag: api.TagLong, B: 1}, {Tag: api.TagLong, B: -1},
		{Tag: api.TagClass, Text: "A"}, {Tag: api.TagClass, N: 1}, {Tag: api.TagClass, B: 1}, {Tag: api.TagClass, N: math.MinInt64},
	}
}

func TestCheckOfEachEntry(t *testing.T) {
	good, bad := entries()
	for _, c := range good {
		l := pool(c)
		if c.Tag == api.TagLong {
			l = append(l, none)
		}
		if e := cpool.Check(l); e != api.OK {
			t.Error(c, e)
		}
		if e := cpool.Check(l[1:]); e != api.ErrTag {
			t.Error(c, e)
		}
	}
	for _, c := range bad {
		want := api.ErrTag
		if c.Tag == api.TagUtf8 && c.N == 0 && c.A == 0 && c.B == 0 {
			want = api.ErrUtf
		}
		for _, l := range [][]api.Const{pool(c), pool(c, none), pool(num(1), c), pool(c, utf("\x00")), pool(c, api.Const{Tag: 2})} {
			if e := cpool.Check(l); e != want {
				t.Error(c.Tag, len(c.Text), c.N, c.A, c.B, e)
			}
		}
	}
}

func TestCheck(t *testing.T) {
	for _, x := range []struct {
		l []api.Const
		e api.Errno
	}{
		{nil, api.OK}, {[]api.Const{}, api.OK}, {pool(), api.OK}, {pool(none), api.ErrTag}, {pool(num(1), none), api.ErrTag}, {pool(none, num(1)), api.ErrTag},
		{[]api.Const{num(1)}, api.ErrTag}, {[]api.Const{utf("A"), num(1)}, api.ErrTag}, {[]api.Const{utf("\x00")}, api.ErrTag}, {[]api.Const{long(1), none}, api.ErrTag}, {[]api.Const{{Tag: 2}}, api.ErrTag},
		{[]api.Const{{N: 1}}, api.ErrTag}, {[]api.Const{{A: 1}}, api.ErrTag}, {[]api.Const{{B: 1}}, api.ErrTag}, {[]api.Const{{Text: "A"}}, api.ErrTag},
		{pool(long(1)), api.ErrTag}, {pool(long(1), none), api.OK}, {pool(long(1), none, none), api.ErrTag}, {pool(long(1), num(1)), api.ErrTag}, {pool(long(1), utf("\x00")), api.ErrTag}, {pool(long(1), long(1)), api.ErrTag},
		{pool(long(1), long(1), none), api.ErrTag}, {pool(long(1), none, long(2), none, num(3)), api.OK}, {pool(long(1), none, long(2)), api.ErrTag}, {pool(num(3), long(2)), api.ErrTag},
		{pool(long(1), api.Const{N: 1}), api.ErrTag}, {pool(long(1), api.Const{A: 1}), api.ErrTag}, {pool(long(1), api.Const{B: 1}), api.ErrTag}, {pool(long(1), api.Const{Text: "A"}), api.ErrTag},
		// Of the first one that may not be.
		{pool(utf("\x00"), num(1<<31)), api.ErrUtf}, {pool(num(1<<31), utf("\x00")), api.ErrTag}, {pool(utf("\x00"), long(1)), api.ErrUtf}, {pool(utf("A"), utf("\x00"), none), api.ErrUtf},
		// Where indices go is not asked.
		{pool(class(0)), api.OK}, {pool(class(1)), api.OK}, {pool(pair(9, 7, 65535), utf("A")), api.OK},
	} {
		if e := cpool.Check(x.l); e != x.e || meantCheck(x.l) != x.e {
			t.Error(x.l, e)
		}
	}
}

func TestCheckOfAllShortLists(t *testing.T) {
	few := []api.Const{none, {N: 1}, utf("A"), utf("\x80"), num(7), num(1 << 31), long(7), {Tag: api.TagLong, B: 1}, class(1), {Tag: 8}}
	for l := range seq(few, 4) {
		for _, m := range [][]api.Const{l, pool(l...)} {
			want := meantCheck(m)
			if e := cpool.Check(m); e != want {
				t.Fatal(m, e)
			}
			if b, e := cpool.Put(m...); e != want || (e != api.OK) != (b == nil) {
				t.Fatal(m, b, e)
			}
		}
	}
}

func TestCheckAtTheLimit(t *testing.T) {
	for _, x := range []struct {
		n    int
		c    api.Const
		want api.Errno
	}{
		{api.MaxPool - 1, num(1), api.OK}, {api.MaxPool, num(1), api.ErrLong}, {1 << 20, num(1), api.ErrLong}, {api.MaxPool - 1, none, api.ErrTag}, {api.MaxPool, none, api.ErrLong}, {api.MaxPool, utf("\x00"), api.ErrLong},
		{api.MaxPool - 1, utf(strings.Repeat("x", 255)), api.OK}, {api.MaxPool - 1, utf(strings.Repeat("x", 256)), api.ErrUtf},
	} {
		l := pool(slices.Repeat([]api.Const{x.c}, x.n)...)
		if e := cpool.Check(l); e != x.want {
			t.Error(x.n, e)
		}
		if b, e := cpool.Put(l...); e != x.want || e != api.OK && b != nil {
			t.Error(x.n, len(b), e)
		}
	}
}

func TestCheckOfTheLastOne(t *testing.T) {
	for _, n := range []int{2, 3, 100, api.MaxPool} {
		l := pool(slices.Repeat([]api.Const{num(1)}, n-1)...)
		for _, x := range []struct {
			c api.Const
			e api.Errno
		}{{num(2), api.OK}, {utf("\x00"), api.ErrUtf}, {long(1), api.ErrTag}, {none, api.ErrTag}, {class(-1), api.ErrTag}} {
			l[n-1] = x.c
			if e := cpool.Check(l); e != x.e {
				t.Error(n, x.c, e)
			}
		}
	}
}

func TestPut(t *testing.T) {
	for _, x := range thereAndBack() {
		if b, e := cpool.Put(x.l...); e != api.OK || !bytes.Equal(b, x.b) {
			t.Error(x.l, b, e)
		}
		if e := cpool.Check(x.l); e != api.OK {
			t.Error(x.l, e)
		}
	}
	if b, e := cpool.Put(); e != api.OK || !bytes.Equal(b, []byte{0, 0}) {
		t.Error(b, e)
	}
	if b, e := cpool.Put([]api.Const{}...); e != api.OK || !bytes.Equal(b, []byte{0, 0}) {
		t.Error(b, e)
	}
}

func TestPutIsNobodysElse(t *testing.T) {
	l := pool(utf("AB"), long(1), none, class(1))
	kept := slices.Clone(l)
	first, _ := cpool.Put(l...)
	want := slices.Clone(first)
	clear(first)
	if again, e := cpool.Put(l...); e != api.OK || !bytes.Equal(again, want) {
		t.Error(again, e)
	}
	if e := cpool.Check(l); e != api.OK || !slices.Equal(l, kept) {
		t.Error(l, e)
	}
}
