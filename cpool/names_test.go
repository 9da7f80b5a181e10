package cpool_test

import (
	"math"
	"slices"
	"testing"

	"tabard/api"
	"tabard/cpool"
)

// tagsAsked are the tags, and numbers that are none.
var tagsAsked = []int{0, 1, 3, 5, 7, 9, 10, 12, 2, 4, 11, 13, -1, 255, math.MinInt, math.MaxInt}

// named is a pool with each kind of entry, and such as name what they must not.
func named() []api.Const {
	return pool(
		utf("A"), utf("x"), utf("I"), // 1 to 3
		class(1), pair(12, 2, 3), // 4, 5
		pair(9, 4, 5), pair(10, 4, 5), // 6, 7
		num(-7), long(1<<40), none, // 8 to 10
		utf(""), class(11), pair(12, 11, 11), pair(9, 12, 13), // 11 to 14
		class(0), class(4), class(5), class(8), class(10), class(40), class(65535), // 15 to 21
		pair(9, 1, 5), pair(9, 5, 5), pair(9, 0, 5), pair(9, 6, 5), pair(9, 15, 5), pair(9, 16, 5), pair(9, 40, 5), // 22 to 28: A is no class that has a text
		pair(10, 4, 0), pair(10, 4, 2), pair(10, 4, 4), pair(10, 4, 6), pair(10, 4, 7), pair(10, 4, 40), // 29 to 34: B is no name
		pair(12, 0, 3), pair(12, 2, 0), pair(12, 4, 3), pair(12, 2, 8), pair(12, 40, 3), pair(12, 2, 40), // 35 to 40
		pair(9, 4, 35), pair(9, 4, 36), pair(9, 4, 37), pair(9, 4, 38), pair(9, 4, 39), pair(9, 4, 40), // 41 to 46: B names no texts
		pair(9, 46, 47), class(47), pair(12, 4, 5), // 47 to 49: the last one names all that a field does
	)
}

// asked are indices within a pool, and such as are none.
func asked(l []api.Const) []int {
	all := []int{-1, -2, len(l), len(l) + 1, 1 << 32, 1<<32 + 1, -len(l), math.MinInt, math.MaxInt}
	for i := range l {
		all = append(all, i)
	}
	return all
}

// meantText and those that follow are what the document says of a pool, whatever it is.
func meantText(l []api.Const, i int) (string, bool) {
	if i < 0 || i >= len(l) || l[i].Tag != 1 {
		return "", false
	}
	return l[i].Text, true
}

func meantClass(l []api.Const, i int) (string, bool) {
	if i < 0 || i >= len(l) || l[i].Tag != 7 {
		return "", false
	}
	return meantText(l, l[i].A)
}

func meantRef(l []api.Const, i, tag int) (api.Named, bool) {
	if i < 0 || i >= len(l) || l[i].Tag != tag || tag != 9 && tag != 10 {
		return api.Named{}, false
	}
	c, first := meantClass(l, l[i].A)
	at := l[i].B
	if !first || at < 0 || at >= len(l) || l[at].Tag != 12 {
		return api.Named{}, false
	}
	n, second := meantText(l, l[at].A)
	d, third := meantText(l, l[at].B)
	if !second || !third {
		return api.Named{}, false
	}
	return api.Named{Class: c, Name: n, Desc: d}, true
}

func meantNumber(l []api.Const, i, tag int) (int64, bool) {
	if i < 0 || i >= len(l) || l[i].Tag != tag || tag != 3 && tag != 5 {
		return 0, false
	}
	return l[i].N, true
}

// told is the error of what there is, or is not.
func told(is bool) api.Errno {
	if is {
		return api.OK
	}
	return api.ErrPool
}

func checkNames(t *testing.T, l []api.Const) {
	t.Helper()
	for _, i := range asked(l) {
		s, is := meantText(l, i)
		if got, e := cpool.Text(l, i); got != s || e != told(is) {
			t.Error("Text", i, got, e)
		}
		s, is = meantClass(l, i)
		if got, e := cpool.Class(l, i); got != s || e != told(is) {
			t.Error("Class", i, got, e)
		}
		for _, tag := range tagsAsked {
			r, is := meantRef(l, i, tag)
			if got, e := cpool.Ref(l, i, tag); got != r || e != told(is) {
				t.Error("Ref", i, tag, got, e)
			}
			n, is := meantNumber(l, i, tag)
			if got, e := cpool.Number(l, i, tag); got != n || e != told(is) {
				t.Error("Number", i, tag, got, e)
			}
		}
	}
}

func TestNames(t *testing.T) {
	l := named()
	if e := cpool.Check(l); e != api.OK {
		t.Fatal(e)
	}
	kept := slices.Clone(l)
	for i, want := range map[int]string{1: "A", 2: "x", 3: "I", 11: ""} {
		if s, e := cpool.Text(l, i); s != want || e != api.OK {
			t.Error(i, s, e)
		}
	}
	for i, want := range map[int]string{4: "A", 12: ""} {
		if s, e := cpool.Class(l, i); s != want || e != api.OK {
			t.Error(i, s, e)
		}
	}
	full := api.Named{Class: "A", Name: "x", Desc: "I"}
	for _, x := range []struct {
		i, tag int
		r      api.Named
		e      api.Errno
	}{
		{6, 9, full, api.OK}, {7, 10, full, api.OK}, {14, 9, api.Named{}, api.OK}, {6, 10, api.Named{}, api.ErrPool}, {7, 9, api.Named{}, api.ErrPool}, {5, 12, api.Named{}, api.ErrPool}, {4, 7, api.Named{}, api.ErrPool}, {6, 0, api.Named{}, api.ErrPool},
	} {
		if r, e := cpool.Ref(l, x.i, x.tag); r != x.r || e != x.e {
			t.Error(x.i, x.tag, r, e)
		}
	}
	for i := 22; i <= 49; i++ {
		for _, tag := range tagsAsked {
			if r, e := cpool.Ref(l, i, tag); r != (api.Named{}) || e != api.ErrPool {
				t.Error(i, tag, r, e)
			}
		}
	}
	for _, x := range []struct {
		i, tag int
		n      int64
		e      api.Errno
	}{{8, 3, -7, api.OK}, {9, 5, 1 << 40, api.OK}, {8, 5, 0, api.ErrPool}, {9, 3, 0, api.ErrPool}, {10, 5, 0, api.ErrPool}, {10, 0, 0, api.ErrPool}, {1, 1, 0, api.ErrPool}, {0, 0, 0, api.ErrPool}} {
		if n, e := cpool.Number(l, x.i, x.tag); n != x.n || e != x.e {
			t.Error(x.i, x.tag, n, e)
		}
	}
	checkNames(t, l)
	if !slices.Equal(l, kept) {
		t.Error(l)
	}
}

// TestNamesOfAnyPool asks pools as Check refuses them.
func TestNamesOfAnyPool(t *testing.T) {
	odd := []api.Const{
		{Tag: 1, Text: "\x00\xff", N: 9, A: 2, B: 3}, {Tag: 7, A: 0, Text: "t", N: 1, B: -1}, {Tag: 12, A: 0, B: 0, N: 5}, {Tag: 9, A: 1, B: 2, Text: "t"}, {Tag: 10, A: 1, B: 2, N: -1},
		{Tag: 3, N: 1 << 40, Text: "t", A: 1}, {Tag: 5, N: -1, B: 7}, {Tag: 3, N: 3}, // a Long without one behind it
		{Tag: 7, A: -1}, {Tag: 7, A: math.MaxInt}, {Tag: 7, A: math.MinInt}, {Tag: 9, A: 1, B: math.MinInt}, {Tag: 9, A: math.MaxInt, B: 2}, {Tag: 12, A: -1, B: 0}, {Tag: 12, A: 0, B: 1 << 40}, {Tag: 9, A: 1, B: 13}, {Tag: 9, A: 1, B: 14},
		{Tag: 0, Text: "t", N: 1}, {Tag: 2, Text: "t", N: 1}, {Tag: -1, N: 1}, {Tag: 255, N: 1}, {Tag: 7, A: 21}, {Tag: 9, A: 22, B: 22}, {Tag: 12, A: 1, B: 2}, {Tag: 1, A: 1, B: 2}, {Tag: 2, A: 1, B: 2}, {Tag: 0, A: 1, B: 2},
	}
	checkNames(t, odd)
	checkNames(t, nil)
	checkNames(t, []api.Const{})
	checkNames(t, make([]api.Const, api.MaxPool+1))
	// The entry 0 is asked as any other, and what it has is told though Check would refuse it.
	if s, e := cpool.Text(odd, 0); s != "\x00\xff" || e != api.OK {
		t.Error(s, e)
	}
	if r, e := cpool.Ref(odd, 3, 9); r != (api.Named{Class: "\x00\xff", Name: "\x00\xff", Desc: "\x00\xff"}) || e != api.OK {
		t.Error(r, e)
	}
	if n, e := cpool.Number(odd, 5, 3); n != 1<<40 || e != api.OK {
		t.Error(n, e)
	}
	for l := range seq([]api.Const{none, utf("A"), class(0), class(1), pair(9, 2, 3), pair(10, 1, 0), pair(12, 0, 1)}, 4) {
		checkNames(t, l)
	}
}
