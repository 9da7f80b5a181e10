package arith_test

import (
	"testing"

	"tabard/api"
	"tabard/arith"
)

// held holds Int and Long of the operation against what is meant.
func held(t *testing.T, op int, a, b int64) {
	t.Helper()
	n, is := arith.Int(op, a, b)
	if m, meantIs := meant(op, a, b, 32); n != m || is != meantIs {
		t.Fatalf("Int(%d, %d, %d) = %d, %t, not %d, %t", op, a, b, n, is, m, meantIs)
	}
	n, is = arith.Long(op, a, b)
	if m, meantIs := meant(op, a, b, 64); n != m || is != meantIs {
		t.Fatalf("Long(%d, %d, %d) = %d, %t, not %d, %t", op, a, b, n, is, m, meantIs)
	}
}

func TestBinaryOfEdges(t *testing.T) {
	l := edges()
	for _, a := range l {
		for _, b := range l {
			for op := 0; op <= api.BinUshr+1; op++ {
				held(t, op, a, b)
			}
		}
	}
}

// TestShiftsByAllPlaces goes beyond the bits of either width, both ways.
func TestShiftsByAllPlaces(t *testing.T) {
	for _, a := range edges() {
		for b := int64(-130); b <= 130; b++ {
			for op := api.BinShl; op <= api.BinUshr; op++ {
				held(t, op, a, b)
				held(t, op, a, b+1<<32)
			}
		}
	}
}

func TestBinaryOfAnyNumbers(t *testing.T) {
	n := numbers(5)
	for range 20000 {
		a, b := n.next(), n.next()
		for op := range api.BinUshr + 1 {
			held(t, op, a, b)
		}
	}
}

func TestBinaryOfAnyOp(t *testing.T) {
	l := []int64{0, 1, -1, 9, -35, leastInt, 1 << 32, leastLong, mostLong}
	for _, op := range kinds() {
		for _, a := range l {
			for _, b := range l {
				held(t, op, a, b)
			}
		}
	}
}

// TestInt has the chapter's examples, and numbers that are plain to see.
func TestInt(t *testing.T) {
	for _, x := range []struct {
		op      int
		a, b, n int64
	}{
		{api.BinAdd, 2147483647, 1, -2147483648},
		{api.BinAdd, 1<<32 + 3, 4, 7},
		{api.BinSub, -2147483648, 1, 2147483647},
		{api.BinMul, 65536, 65536, 0},
		{api.BinMul, -2147483648, -1, -2147483648},
		{api.BinMul, 2147483647, 2147483647, 1},
		{api.BinDiv, 7, 2, 3},
		{api.BinDiv, -7, 2, -3},
		{api.BinDiv, 7, -2, -3},
		{api.BinDiv, -7, -2, 3},
		{api.BinDiv, -2147483648, -1, -2147483648},
		{api.BinDiv, 7, 1<<32 + 2, 3},
		{api.BinRem, 7, 2, 1},
		{api.BinRem, -7, 2, -1},
		{api.BinRem, 7, -2, 1},
		{api.BinRem, -7, -2, -1},
		{api.BinRem, -2147483648, -1, 0},
		{api.BinAnd, -1, 255, 255},
		{api.BinAnd, 12, 10, 8},
		{api.BinOr, 12, 10, 14},
		{api.BinOr, 1 << 31, 0, -2147483648},
		{api.BinXor, 12, 10, 6},
		{api.BinXor, -1, 2147483647, -2147483648},
		{api.BinShl, 1, 31, -2147483648},
		{api.BinShl, 1, 32, 1},
		{api.BinShl, 1, -1, -2147483648},
		{api.BinShl, 3, 31, -2147483648},
		{api.BinShr, -8, 1, -4},
		{api.BinShr, -1, 31, -1},
		{api.BinShr, -8, 33, -4},
		{api.BinShr, 1 << 31, 31, -1},
		{api.BinUshr, -1, 28, 15},
		{api.BinUshr, -1, 0, -1},
		{api.BinUshr, -1, 32, -1},
		{api.BinUshr, -1, 1, 2147483647},
		{api.BinUshr, 1 << 32, 1, 0},
	} {
		if n, is := arith.Int(x.op, x.a, x.b); n != x.n || !is {
			t.Errorf("Int(%d, %d, %d) = %d, %t, not %d", x.op, x.a, x.b, n, is, x.n)
		}
	}
}

func TestLong(t *testing.T) {
	for _, x := range []struct {
		op      int
		a, b, n int64
	}{
		{api.BinAdd, mostLong, 1, leastLong},
		{api.BinAdd, 2147483647, 1, 2147483648},
		{api.BinSub, leastLong, 1, mostLong},
		{api.BinMul, 1 << 32, 1 << 32, 0},
		{api.BinMul, leastLong, -1, leastLong},
		{api.BinMul, 65536, 65536, 1 << 32},
		{api.BinDiv, -7, 2, -3},
		{api.BinDiv, leastLong, -1, leastLong},
		{api.BinDiv, leastInt, -1, 2147483648},
		{api.BinRem, -7, 2, -1},
		{api.BinRem, 7, -2, 1},
		{api.BinRem, leastLong, -1, 0},
		{api.BinDiv, 3, 1 << 32, 0},
		{api.BinRem, 3, 1 << 32, 3},
		{api.BinAnd, -1, 1 << 40, 1 << 40},
		{api.BinOr, 1 << 40, 1, 1<<40 + 1},
		{api.BinXor, -1, mostLong, leastLong},
		{api.BinShl, 1, 65, 2},
		{api.BinShl, 1, 63, leastLong},
		{api.BinShl, 1, 33, 1 << 33},
		{api.BinShr, -8, 65, -4},
		{api.BinShr, leastLong, 63, -1},
		{api.BinUshr, -1, 60, 15},
		{api.BinUshr, -1, 64, -1},
		{api.BinUshr, -1, 32, 1<<32 - 1},
	} {
		if n, is := arith.Long(x.op, x.a, x.b); n != x.n || !is {
			t.Errorf("Long(%d, %d, %d) = %d, %t, not %d", x.op, x.a, x.b, n, is, x.n)
		}
	}
}

func TestNothingIsDividedByNought(t *testing.T) {
	for _, a := range edges() {
		for _, op := range []int{api.BinDiv, api.BinRem} {
			for _, y := range []int64{0, 1 << 32, -1 << 32, leastLong, 3 << 40} {
				if n, is := arith.Int(op, a, y); n != 0 || is {
					t.Fatalf("Int(%d, %d, %d) = %d, %t", op, a, y, n, is)
				}
			}
			if n, is := arith.Long(op, a, 0); n != 0 || is {
				t.Fatalf("Long(%d, %d, 0) = %d, %t", op, a, n, is)
			}
		}
	}
}

// pure are the operations that come to something of all numbers.
func pure() []int {
	return []int{api.BinAdd, api.BinSub, api.BinMul, api.BinAnd, api.BinOr, api.BinXor, api.BinShl, api.BinShr, api.BinUshr}
}

func TestPure(t *testing.T) {
	is := map[int]bool{}
	for _, op := range pure() {
		is[op] = true
	}
	for _, op := range kinds() {
		if arith.Pure(op) != is[op] {
			t.Errorf("Pure(%d) = %t", op, arith.Pure(op))
		}
	}
}

// TestPureSaysWhatIntAndLongDo holds Pure against them, by noughts and by other numbers.
func TestPureSaysWhatIntAndLongDo(t *testing.T) {
	l := edges()
	for _, op := range kinds() {
		ints, longs := true, true
		for _, b := range l {
			_, is := arith.Int(op, 5, b)
			ints = ints && is
			_, is = arith.Long(op, 5, b)
			longs = longs && is
		}
		if arith.Pure(op) != ints || ints != longs {
			t.Errorf("Pure(%d) = %t; Int: %t, Long: %t", op, arith.Pure(op), ints, longs)
		}
	}
}
