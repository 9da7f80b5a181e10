package arith_test

import (
	"math"
	"math/big"
	"slices"

	"tabard/api"
)

// What the document says, with numbers that know no width, so that nothing wraps round but where it is told.

const (
	leastInt  = math.MinInt32
	leastLong = math.MinInt64
	mostLong  = math.MaxInt64
)

// lowest is the number of n's lowest bits, which is never below 0.
func lowest(n *big.Int, bits uint) *big.Int {
	return new(big.Int).Mod(n, new(big.Int).Lsh(big.NewInt(1), bits))
}

// signed is the number of n's lowest bits, with their sign.
func signed(n *big.Int, bits uint) *big.Int {
	m := lowest(n, bits)
	if m.Bit(int(bits)-1) == 1 {
		m.Sub(m, new(big.Int).Lsh(big.NewInt(1), bits))
	}
	return m
}

// meant is what Int (of 32 bits) and Long (of 64) come to.
func meant(op int, a, b int64, bits uint) (int64, bool) {
	x, y := signed(big.NewInt(a), bits), signed(big.NewInt(b), bits)
	n, is := whole(op, x, y, bits)
	if !is {
		return 0, false
	}
	return signed(n, bits).Int64(), true
}

// whole is meant ahead of its being cut.
func whole(op int, x, y *big.Int, bits uint) (*big.Int, bool) {
	n := new(big.Int)
	places := uint(lowest(y, 6).Uint64())
	if bits == 32 {
		places = uint(lowest(y, 5).Uint64())
	}
	switch op {
	case api.BinAdd:
		return n.Add(x, y), true
	case api.BinSub:
		return n.Sub(x, y), true
	case api.BinMul:
		return n.Mul(x, y), true
	case api.BinDiv, api.BinRem:
		if y.Sign() == 0 {
			return nil, false
		}
		if op == api.BinDiv {
			return n.Quo(x, y), true
		}
		return n.Rem(x, y), true
	case api.BinAnd:
		return n.And(x, y), true
	case api.BinOr:
		return n.Or(x, y), true
	case api.BinXor:
		return n.Xor(x, y), true
	case api.BinShl:
		return n.Lsh(x, places), true
	case api.BinShr:
		return n.Rsh(x, places), true
	case api.BinUshr:
		return n.Rsh(lowest(x, bits), places), true
	}
	return nil, false
}

// meantNarrow is what Narrow comes to.
func meantNarrow(kind int, a int64) int64 {
	switch kind {
	case api.NarByte:
		return signed(big.NewInt(a), 8).Int64()
	case api.NarChar:
		return lowest(big.NewInt(a), 16).Int64()
	case api.NarShort:
		return signed(big.NewInt(a), 16).Int64()
	}
	return a
}

// meantCond is what Cond comes to.
func meantCond(cond int, a, b int64) bool {
	switch cond {
	case api.CondEq:
		return a == b
	case api.CondNe:
		return a != b
	case api.CondLt:
		return a < b
	case api.CondGe:
		return a >= b
	case api.CondGt:
		return a > b
	case api.CondLe:
		return a <= b
	}
	return false
}

// numbers are told by a rule, so that each run of the tests has the same ones.
type numbers uint64

// next is a number of any size.
func (n *numbers) next() int64 {
	part := func() uint64 {
		*n = *n*6364136223846793005 + 1442695040888963407
		return uint64(*n) >> 33
	}
	all := part()<<33 ^ part()<<11 ^ part()
	return int64(all) >> (part() % 64)
}

// edges are the numbers at which widths end, and those beside them.
func edges() []int64 {
	var l []int64
	for _, bits := range []int{0, 2, 3, 4, 5, 6, 7, 8, 15, 16, 17, 30, 31, 32, 33, 40, 47, 48, 61, 62, 63} {
		for beside := int64(-1); beside <= 1; beside++ {
			n := int64(1)<<bits + beside
			l = append(l, n, -n)
		}
	}
	l = append(l, 0x5555555555555555, -0x5555555555555556, 0xaaaaaaaa, 0x100000000-7, -0x100000000+7, 10, -10)
	slices.Sort(l)
	return slices.Compact(l)
}

// kinds are the kinds of operations and conditions that there are, and numbers that are none.
func kinds() []int {
	l := []int{math.MinInt, math.MaxInt, math.MinInt32, math.MaxInt32, 1 << 8, 1 << 16, 1 << 32}
	for k := -20; k <= 20; k++ {
		l = append(l, k, k+1<<8, k+1<<16, k+1<<32, math.MinInt+20+k)
	}
	return l
}
