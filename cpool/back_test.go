package cpool_test

import (
	"bytes"
	"slices"
	"strings"
	"testing"

	"tabard/api"
	"tabard/cpool"
)

// numbers are told by a rule, so that each run of the tests has the same ones.
type numbers uint64

func (n *numbers) below(k int) int {
	*n = *n*6364136223846793005 + 1442695040888963407
	return int(uint64(*n)>>33) % k
}

// entry is one that may be.
func (n *numbers) entry() api.Const {
	wide := int64(n.below(1<<31))<<33 ^ int64(n.below(1<<31))<<16 ^ int64(n.below(1<<16))
	switch tag := []int{1, 3, 5, 7, 9, 10, 12}[n.below(7)]; tag {
	case api.TagUtf8:
		b := make([]byte, n.below(6))
		for i := range b {
			b[i] = byte(1 + n.below(127))
		}
		return utf(string(b) + strings.Repeat("x", []int{0, 0, 0, 249}[n.below(4)]))
	case api.TagInt:
		return num(int64(int32(wide >> n.below(40))))
	case api.TagLong:
		return long(wide >> n.below(64))
	case api.TagClass:
		return class(n.below(1 << (1 + n.below(16))))
	default:
		return pair(tag, n.below(1<<(1+n.below(16))), n.below(1<<(1+n.below(16))))
	}
}

// pool is one that Check takes; an entry may be there twice.
func (n *numbers) pool() []api.Const {
	if n.below(20) == 0 {
		return nil
	}
	l := pool()
	for range n.below(12) {
		c := n.entry()
		if l = append(l, c); c.Tag == api.TagLong {
			l = append(l, none)
		}
	}
	return l
}

func TestPoolsThereAndBack(t *testing.T) {
	n := numbers(1)
	for range 20000 {
		l := n.pool()
		b, e := cpool.Put(l...)
		if e != api.OK {
			t.Fatal(l, e)
		}
		behind := append(slices.Clone(b), byte(n.below(256)), byte(n.below(256)))
		for _, all := range [][]byte{b, behind} {
			if back, read, e := cpool.Take(all); e != api.OK || read != len(b) || !slices.Equal(back, l) {
				t.Fatal(l, b, back, read, e)
			}
		}
		// With fewer bytes it is no pool.
		if _, _, e := cpool.Take(b[:n.below(len(b))]); e != api.ErrEnds {
			t.Fatal(b, e)
		}
	}
}

func TestBytesThereAndBack(t *testing.T) {
	n := numbers(2)
	taken := 0
	for range 100000 {
		b, _ := cpool.Put(n.pool()...)
		for range n.below(3) {
			b[n.below(len(b))] = byte(n.below(256) >> n.below(8))
		}
		checkTake(t, b)
		l, read, e := cpool.Take(b)
		if e != api.OK {
			continue
		}
		taken++
		if back, e := cpool.Put(l...); e != api.OK || !bytes.Equal(back, b[:read]) {
			t.Fatal(b, read, back, e)
		}
	}
	if taken < 10000 {
		t.Fatal(taken)
	}
	// All short ones.
	for b := range seq([]byte{0, 1, 2, 3, 5, 7}, 6) {
		l, read, e := cpool.Take(append([]byte{0}, b...))
		if e != api.OK {
			continue
		}
		if back, e := cpool.Put(l...); e != api.OK || !bytes.Equal(back, append([]byte{0}, b...)[:read]) {
			t.Fatal(b, read, back, e)
		}
	}
}

func TestAddedIsThere(t *testing.T) {
	n := numbers(3)
	for range 3000 {
		l := n.pool()
		for range 8 {
			c := n.entry()
			if n.below(3) == 0 && len(l) > 1 {
				if twice := l[1+n.below(len(l)-1)]; twice != none {
					c = twice
				}
			}
			checkAdd(t, l, c)
			m, i, e := cpool.Add(l, c)
			if e != api.OK || i < 1 || i >= len(m) || m[i] != c || !slices.Equal(m[:len(l)], l) || cpool.Check(m) != api.OK {
				t.Fatal(l, c, m, i, e)
			}
			if at, is := cpool.Find(m, c); !is || at != i {
				t.Fatal(m, c, at, is)
			}
			if again, k, e := cpool.Add(m, c); e != api.OK || k != i || !slices.Equal(again, m) {
				t.Fatal(m, c, again, k, e)
			}
			l = m
		}
	}
}

// TestGrownFromNothing adds up to the limit, and each entry keeps its index.
func TestGrownFromNothing(t *testing.T) {
	var l []api.Const
	places := map[api.Const]int{}
	for k := 0; ; k++ {
		c := num(int64(k))
		if k%5 == 0 {
			c = long(int64(k))
		}
		m, i, e := cpool.Add(l, c)
		if e == api.ErrLong {
			break
		}
		if e != api.OK {
			t.Fatal(k, e)
		}
		l, places[c] = m, i
	}
	if len(l) < api.MaxPool-1 {
		t.Error(len(l))
	}
	for c, i := range places {
		if l[i] != c {
			t.Error(c, i, l[i])
		}
	}
	if back, _, e := cpool.Take(must(cpool.Put(l...))); e != api.OK || !slices.Equal(back, l) {
		t.Error(len(back), e)
	}
}

// must is for what can't be wrong there: an error is seen by what comes of no bytes.
func must(b []byte, _ api.Errno) []byte { return b }
