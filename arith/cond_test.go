package arith_test

import (
	"testing"

	"tabard/api"
	"tabard/arith"
)

func TestCompare(t *testing.T) {
	l := edges()
	for _, a := range l {
		for _, b := range l {
			want := int64(0)
			if a < b {
				want = -1
			} else if a > b {
				want = 1
			}
			if n := arith.Compare(a, b); n != want {
				t.Fatalf("Compare(%d, %d) = %d, not %d", a, b, n, want)
			}
		}
	}
}

func TestCond(t *testing.T) {
	l := edges()
	for _, a := range l {
		for _, b := range l {
			for cond := -1; cond <= 8; cond++ {
				if is := arith.Cond(cond, a, b); is != meantCond(cond, a, b) {
					t.Fatalf("Cond(%d, %d, %d) = %t", cond, a, b, is)
				}
			}
		}
	}
}

func TestNotAndSwap(t *testing.T) {
	for _, x := range []struct{ cond, not, swap int }{
		{api.CondEq, api.CondNe, api.CondEq},
		{api.CondNe, api.CondEq, api.CondNe},
		{api.CondLt, api.CondGe, api.CondGt},
		{api.CondGe, api.CondLt, api.CondLe},
		{api.CondGt, api.CondLe, api.CondLt},
		{api.CondLe, api.CondGt, api.CondGe},
	} {
		if n := arith.Not(x.cond); n != x.not {
			t.Errorf("Not(%d) = %d, not %d", x.cond, n, x.not)
		}
		if n := arith.Swap(x.cond); n != x.swap {
			t.Errorf("Swap(%d) = %d, not %d", x.cond, n, x.swap)
		}
	}
}

// TestNotAndSwapSayWhatCondDoes holds them against Cond.
func TestNotAndSwapSayWhatCondDoes(t *testing.T) {
	l := edges()
	for cond := api.CondEq; cond <= api.CondLe; cond++ {
		not, swap := arith.Not(cond), arith.Swap(cond)
		for _, a := range l {
			for _, b := range l {
				is := arith.Cond(cond, a, b)
				if arith.Cond(not, a, b) == is {
					t.Fatalf("Cond(%d, %d, %d) and that of Not, %d, are both %t", cond, a, b, not, is)
				}
				if arith.Cond(swap, b, a) != is {
					t.Fatalf("Cond(%d, %d, %d) is not that of Swap, %d", cond, a, b, swap)
				}
			}
		}
	}
}

func TestNoCondition(t *testing.T) {
	for _, cond := range kinds() {
		if cond >= api.CondEq && cond <= api.CondLe {
			continue
		}
		for _, b := range []int64{-1, 0, 1} {
			if arith.Cond(cond, 0, b) {
				t.Errorf("Cond(%d, 0, %d)", cond, b)
			}
		}
		if n := arith.Not(cond); n != 0 {
			t.Errorf("Not(%d) = %d", cond, n)
		}
		if n := arith.Swap(cond); n != 0 {
			t.Errorf("Swap(%d) = %d", cond, n)
		}
	}
}
