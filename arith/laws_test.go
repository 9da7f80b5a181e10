package arith_test

import (
	"testing"

	"tabard/api"
	"tabard/arith"
)

// binary is Int or Long.
type binary func(op int, a, b int64) (int64, bool)

// divided holds the quotient and the rest of a number against it.
func divided(t *testing.T, in binary, a, b int64) {
	t.Helper()
	q, is := in(api.BinDiv, a, b)
	r, too := in(api.BinRem, a, b)
	if !is || !too {
		t.Fatal(a, b, is, too)
	}
	p, _ := in(api.BinMul, q, b)
	if sum, _ := in(api.BinAdd, p, r); sum != a {
		t.Fatalf("%d * %d + %d is %d, not %d", q, b, r, sum, a)
	}
	if r != 0 && r < 0 != (a < 0) {
		t.Fatalf("the rest %d of %d by %d has another sign", r, a, b)
	}
	// Both below 0, where the least number has its like, too.
	if below(r) <= below(b) {
		t.Fatalf("the rest %d of %d by %d is too great", r, a, b)
	}
}

func below(a int64) int64 {
	if a > 0 {
		return -a
	}
	return a
}

func TestQuotientTimesDivisorAndRest(t *testing.T) {
	l := edges()
	for _, a := range l {
		for _, b := range l {
			if b != 0 {
				divided(t, arith.Long, a, b)
			}
			if arith.Wrap(b) != 0 {
				divided(t, arith.Int, arith.Wrap(a), arith.Wrap(b))
			}
		}
	}
	n := numbers(11)
	for range 100000 {
		a, b := n.next(), n.next()
		if b != 0 {
			divided(t, arith.Long, a, b)
		}
		if arith.Wrap(b) != 0 {
			divided(t, arith.Int, arith.Wrap(a), arith.Wrap(b))
		}
	}
}

func TestIntTellsInts(t *testing.T) {
	l := edges()
	for _, a := range l {
		if n := arith.IntNeg(a); arith.Wrap(n) != n {
			t.Fatalf("IntNeg(%d) = %d", a, n)
		}
		for _, b := range l {
			for op := api.BinAdd; op <= api.BinUshr; op++ {
				if n, _ := arith.Int(op, a, b); arith.Wrap(n) != n {
					t.Fatalf("Int(%d, %d, %d) = %d", op, a, b, n)
				}
			}
		}
	}
}

// TestIntHangsOnIntsAlone changes what stands above an int's bits.
func TestIntHangsOnIntsAlone(t *testing.T) {
	n := numbers(13)
	for range 50000 {
		a, b, over, more := n.next(), n.next(), n.next()<<32, n.next()<<32
		if arith.Wrap(a+over) != arith.Wrap(a) || arith.IntNeg(a+over) != arith.IntNeg(a) {
			t.Fatal(a, over)
		}
		for op := range api.BinUshr + 2 {
			n, is := arith.Int(op, a, b)
			if m, too := arith.Int(op, a+over, b+more); m != n || too != is {
				t.Fatalf("Int(%d, %d, %d) = %d, %t, but %d, %t of %d and %d", op, a, b, n, is, m, too, a+over, b+more)
			}
		}
	}
}

func TestNotOfNotAndSwapOfSwap(t *testing.T) {
	for cond := range api.CondLe + 1 {
		if n := arith.Not(arith.Not(cond)); n != cond {
			t.Errorf("Not of Not of %d is %d", cond, n)
		}
		if n := arith.Swap(arith.Swap(cond)); n != cond {
			t.Errorf("Swap of Swap of %d is %d", cond, n)
		}
	}
}
