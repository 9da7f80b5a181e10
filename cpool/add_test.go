package cpool_test

import (
	"iter"
	"math"
	"slices"
	"strings"
	"testing"

	"tabard/api"
	"tabard/cpool"
)

// place is an entry and its index.
type place struct {
	i int
	c api.Const
}

// heard is what an iterator tells, up to so many.
func heard(all iter.Seq2[int, api.Const], most int) []place {
	var l []place
	for i, c := range all {
		l = append(l, place{i, c})
		if len(l) == most {
			break
		}
	}
	return l
}

func TestAll(t *testing.T) {
	odd := api.Const{Tag: -3, Text: "t", N: 1, A: 2, B: 3}
	for _, x := range []struct {
		l    []api.Const
		want []place
	}{
		{nil, nil}, {[]api.Const{}, nil}, {pool(), nil}, {pool(none, none), nil},
		{pool(utf("A"), long(1), none, class(1)), []place{{1, utf("A")}, {2, long(1)}, {4, class(1)}}},
		{pool(num(1), num(1)), []place{{1, num(1)}, {2, num(1)}}},
		// Pools as they are: the entry 0 too, and tags that there are not; what has TagNone and something else is not told.
		{[]api.Const{utf("Z"), odd, {N: 5}, {Tag: 99}, {Text: "t"}}, []place{{0, utf("Z")}, {1, odd}, {3, api.Const{Tag: 99}}}},
	} {
		if got := heard(cpool.All(x.l), -1); !slices.Equal(got, x.want) {
			t.Error(x.l, got)
		}
		// It may stop at any point, and be gone through again.
		all := cpool.All(x.l)
		for most := 1; most <= len(x.want); most++ {
			if got := heard(all, most); !slices.Equal(got, x.want[:most]) {
				t.Error(x.l, most, got)
			}
		}
		if got := heard(all, -1); !slices.Equal(got, x.want) {
			t.Error(x.l, got)
		}
	}
}

func TestAllTellsWhatWasThere(t *testing.T) {
	l := pool(utf("A"), num(2), class(3))
	want := []place{{1, utf("A")}, {2, num(2)}, {3, class(3)}}
	all := cpool.All(l)
	l[2] = num(9)
	if got := heard(all, -1); !slices.Equal(got, want) {
		t.Error(got)
	}
	// Also what its owner changes while it is gone through.
	l[2] = num(2)
	var got []place
	for i, c := range cpool.All(l) {
		got = append(got, place{i, c})
		clear(l)
	}
	if !slices.Equal(got, want) {
		t.Error(got)
	}
}

func TestFind(t *testing.T) {
	l := pool(utf("A"), num(7), long(7), none, num(7), class(1), pair(9, 1, 2), pair(10, 1, 2), pair(12, 1, 2), utf("A"), utf(""), long(7), none)
	for _, x := range []struct {
		c  api.Const
		i  int
		is bool
	}{
		{utf("A"), 1, true}, {num(7), 2, true}, {long(7), 3, true}, {class(1), 6, true}, {pair(9, 1, 2), 7, true}, {pair(10, 1, 2), 8, true}, {pair(12, 1, 2), 9, true}, {utf(""), 11, true},
		{none, 0, false}, {utf("B"), 0, false}, {utf("a"), 0, false}, {num(8), 0, false}, {long(8), 0, false}, {class(2), 0, false}, {pair(9, 2, 1), 0, false}, {pair(9, 1, 1), 0, false}, {pair(9, 0, 2), 0, false}, {pair(7, 1, 2), 0, false},
		// Field by field.
		{api.Const{Tag: 1, Text: "A", N: 1}, 0, false}, {api.Const{Tag: 3, N: 7, A: 1}, 0, false}, {api.Const{Tag: 3, N: 7, B: 1}, 0, false}, {api.Const{Tag: 3, N: 7, Text: "A"}, 0, false}, {api.Const{Tag: 2, N: 7}, 0, false},
	} {
		if i, is := cpool.Find(l, x.c); i != x.i || is != x.is {
			t.Error(x.c, i, is)
		}
	}
	for _, l := range [][]api.Const{nil, {}, pool(), pool(none)} {
		for _, c := range []api.Const{none, utf(""), utf("A"), {Tag: 99}} {
			if i, is := cpool.Find(l, c); i != 0 || is {
				t.Error(l, c, i, is)
			}
		}
	}
}

func TestFindInAnyPool(t *testing.T) {
	odd := api.Const{Tag: math.MinInt, Text: "\x00", N: -1, A: -2, B: math.MaxInt}
	l := []api.Const{odd, utf("A"), odd, {N: 1}, utf("\x00"), odd, {Tag: 5, A: 1}}
	for _, x := range []struct {
		c  api.Const
		i  int
		is bool
	}{
		{odd, 2, true}, {api.Const{N: 1}, 0, false}, {none, 0, false}, {utf("\x00"), 4, true}, {api.Const{Tag: 5, A: 1}, 6, true}, {utf("A"), 1, true},
	} {
		if i, is := cpool.Find(l, x.c); i != x.i || is != x.is {
			t.Error(x.c, i, is)
		}
	}
	if i, is := cpool.Find(l[:1], odd); i != 0 || is {
		t.Error(i, is)
	}
}

// meantAdd is what the document says of Add.
func meantAdd(l []api.Const, c api.Const) ([]api.Const, int, api.Errno) {
	if e := meantCheck(l); e != api.OK {
		return nil, 0, e
	}
	if e := meantFault(c); e != api.OK {
		return nil, 0, e
	}
	if i := slices.Index(l, c); i >= 0 {
		return l, i, api.OK
	}
	m := slices.Clone(l)
	if len(m) == 0 {
		m = pool()
	}
	i := len(m)
	m = append(m, c)
	if c.Tag == api.TagLong {
		m = append(m, none)
	}
	if len(m) > 4096 {
		return nil, 0, api.ErrLong
	}
	return m, i, api.OK
}

func checkAdd(t *testing.T, l []api.Const, c api.Const) {
	t.Helper()
	kept := slices.Clone(l)
	want, at, fault := meantAdd(l, c)
	m, i, e := cpool.Add(l, c)
	if e != fault || i != at || !slices.Equal(m, want) || e != api.OK && m != nil {
		t.Errorf("Add(%v entries, %d %q) = %v entries, %d, %d", len(l), c.Tag, c.Text[:min(len(c.Text), 9)], len(m), i, e)
	}
	clear(m)
	if !slices.Equal(l, kept) {
		t.Error("Add has changed the pool, or answered its memory", len(l), c.Tag)
	}
}

func TestAdd(t *testing.T) {
	for _, x := range []struct {
		l    []api.Const
		c    api.Const
		want []api.Const
		i    int
	}{
		{nil, utf("A"), pool(utf("A")), 1}, {[]api.Const{}, long(5), pool(long(5), none), 1}, {pool(), utf("A"), pool(utf("A")), 1}, {pool(), long(5), pool(long(5), none), 1},
		{pool(utf("A")), class(1), pool(utf("A"), class(1)), 2}, {pool(long(1), none), num(1), pool(long(1), none, num(1)), 3}, {pool(num(1)), long(1), pool(num(1), long(1), none), 2},
		// What is there already: the least index.
		{pool(utf("A"), num(1), utf("A")), utf("A"), pool(utf("A"), num(1), utf("A")), 1}, {pool(num(1), long(1), none), long(1), pool(num(1), long(1), none), 2}, {pool(class(1)), class(1), pool(class(1)), 1},
		// Where indices go is not asked.
		{nil, pair(9, 65535, 0), pool(pair(9, 65535, 0)), 1}, {pool(class(7)), pair(12, 8, 9), pool(class(7), pair(12, 8, 9)), 2},
	} {
		if m, i, e := cpool.Add(x.l, x.c); e != api.OK || i != x.i || !slices.Equal(m, x.want) {
			t.Error(x.l, x.c, m, i, e)
		}
		checkAdd(t, x.l, x.c)
	}
}

func TestAddRefuses(t *testing.T) {
	good, bad := entries()
	for _, c := range append(slices.Concat(good, bad), none) {
		for _, l := range [][]api.Const{
			nil, pool(), pool(utf("A"), long(7), none), pool(c), pool(c, none), {c},
			// The pool's error comes ahead of the entry's.
			pool(utf("\x00")), pool(num(1 << 31)), pool(long(1)), pool(none), slices.Repeat([]api.Const{none}, api.MaxPool+1),
		} {
			checkAdd(t, l, c)
		}
	}
	for _, x := range []struct {
		l []api.Const
		c api.Const
		e api.Errno
	}{
		{nil, none, api.ErrTag}, {pool(), none, api.ErrTag}, {pool(long(1), none), none, api.ErrTag}, {nil, utf("\x00"), api.ErrUtf}, {nil, api.Const{Tag: 1, Text: "\x00", A: 1}, api.ErrTag}, {nil, num(1 << 31), api.ErrTag}, {nil, class(65536), api.ErrTag}, {nil, pair(9, 0, -1), api.ErrTag}, {nil, api.Const{Tag: 6}, api.ErrTag},
		{pool(utf("\x00")), none, api.ErrUtf}, {pool(none), utf("\x00"), api.ErrTag}, {[]api.Const{num(1)}, num(1), api.ErrTag}, {pool(utf("\x00")), utf("\x00"), api.ErrUtf},
	} {
		if m, i, e := cpool.Add(x.l, x.c); e != x.e || i != 0 || m != nil {
			t.Error(x.l, x.c, m, i, e)
		}
	}
}

func TestAddAtTheLimit(t *testing.T) {
	for n := api.MaxPool - 4; n <= api.MaxPool+1; n++ {
		l := pool(slices.Repeat([]api.Const{num(3)}, n-1)...)
		for _, c := range []api.Const{utf("A"), class(1), num(3), num(4), long(3), none, utf("\x00"), utf(strings.Repeat("x", 256))} {
			checkAdd(t, l, c)
		}
		for _, x := range []struct {
			c    api.Const
			room int
		}{{num(4), 1}, {long(4), 2}, {num(3), 0}} {
			want := api.OK
			if n+x.room > api.MaxPool {
				want = api.ErrLong
			}
			if m, _, e := cpool.Add(l, x.c); e != want || e == api.OK && len(m) != n+x.room {
				t.Error(n, x.c, len(m), e)
			}
		}
	}
	// A Long that is there already needs no room.
	l := append(pool(slices.Repeat([]api.Const{num(3)}, api.MaxPool-3)...), long(4), none)
	if m, i, e := cpool.Add(l, long(4)); e != api.OK || i != api.MaxPool-2 || !slices.Equal(m, l) {
		t.Error(len(m), i, e)
	}
}

func TestAddLeavesThePool(t *testing.T) {
	// There is room behind the pool's end, where its owner has something else.
	whole := pool(utf("A"), num(1), num(2), num(3))
	for _, c := range []api.Const{num(9), long(9), utf("A"), num(1)} {
		l := slices.Clone(whole)
		m, i, e := cpool.Add(l[:3], c)
		if e != api.OK || !slices.Equal(l, whole) {
			t.Error(c, l, e)
		}
		// And what is answered is nobody's else.
		m[0], m[i] = num(77), num(78)
		if !slices.Equal(l, whole) {
			t.Error(c, l)
		}
		clear(l)
		if m[0] != num(77) || m[i] != num(78) || i != 1 && m[1] != utf("A") {
			t.Error(c, m)
		}
	}
	room := make([]api.Const, 0, 4)
	if m, _, e := cpool.Add(room, num(9)); e != api.OK || !slices.Equal(room[:4], make([]api.Const, 4)) || len(m) != 2 {
		t.Error(room[:4], m, e)
	}
}
