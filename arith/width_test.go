package arith_test

import (
	"math/big"
	"testing"

	"tabard/api"
	"tabard/arith"
)

// eachNumber tells small numbers, all edges, and others.
func eachNumber(tell func(a int64)) {
	for a := int64(-1 << 17); a <= 1<<17; a++ {
		tell(a)
	}
	for _, a := range edges() {
		tell(a)
	}
	n := numbers(7)
	for range 50000 {
		tell(n.next())
	}
}

func TestWrap(t *testing.T) {
	eachNumber(func(a int64) {
		if n, m := arith.Wrap(a), signed(big.NewInt(a), 32).Int64(); n != m {
			t.Fatalf("Wrap(%d) = %d, not %d", a, n, m)
		}
	})
	for _, x := range []struct{ a, n int64 }{{0, 0}, {-1, -1}, {2147483647, 2147483647}, {2147483648, -2147483648}, {4294967295, -1}, {4294967296, 0}, {-2147483648, -2147483648}, {-2147483649, 2147483647}, {mostLong, -1}, {leastLong, 0}} {
		if n := arith.Wrap(x.a); n != x.n {
			t.Errorf("Wrap(%d) = %d, not %d", x.a, n, x.n)
		}
	}
}

func TestNarrow(t *testing.T) {
	eachNumber(func(a int64) {
		for kind := -1; kind <= 5; kind++ {
			if n, m := arith.Narrow(kind, a), meantNarrow(kind, a); n != m {
				t.Fatalf("Narrow(%d, %d) = %d, not %d", kind, a, n, m)
			}
		}
	})
	for _, x := range []struct {
		kind int
		a, n int64
	}{
		{api.NarByte, 127, 127},
		{api.NarByte, 128, -128},
		{api.NarByte, 200, -56},
		{api.NarByte, -129, 127},
		{api.NarChar, -1, 65535},
		{api.NarChar, 65536, 0},
		{api.NarChar, 40000, 40000},
		{api.NarShort, 32767, 32767},
		{api.NarShort, 32768, -32768},
		{api.NarShort, 40000, -25536},
		{api.NarShort, -32769, 32767},
		{api.NarByte, leastLong, 0},
		{api.NarChar, mostLong, 65535},
		{api.NarShort, mostLong, -1},
	} {
		if n := arith.Narrow(x.kind, x.a); n != x.n {
			t.Errorf("Narrow(%d, %d) = %d, not %d", x.kind, x.a, n, x.n)
		}
	}
}

func TestNarrowOfAnotherKind(t *testing.T) {
	for _, kind := range kinds() {
		for _, a := range []int64{leastLong, -1, 0, 65535, 1 << 40} {
			if n := arith.Narrow(kind, a); n != meantNarrow(kind, a) {
				t.Errorf("Narrow(%d, %d) = %d", kind, a, n)
			}
		}
	}
}

func TestNegatives(t *testing.T) {
	eachNumber(func(a int64) {
		x := signed(big.NewInt(a), 32)
		if n, m := arith.IntNeg(a), signed(x.Neg(x), 32).Int64(); n != m {
			t.Fatalf("IntNeg(%d) = %d, not %d", a, n, m)
		}
		y := big.NewInt(a)
		if n, m := arith.LongNeg(a), signed(y.Neg(y), 64).Int64(); n != m {
			t.Fatalf("LongNeg(%d) = %d, not %d", a, n, m)
		}
	})
	if n := arith.IntNeg(leastInt); n != leastInt {
		t.Error(n)
	}
	if n := arith.IntNeg(1<<32 + 5); n != -5 {
		t.Error(n)
	}
	if n := arith.LongNeg(leastInt); n != -leastInt {
		t.Error(n)
	}
	if n := arith.LongNeg(leastLong); n != leastLong {
		t.Error(n)
	}
}
