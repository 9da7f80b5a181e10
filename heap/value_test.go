package heap_test

import (
	"math"
	"testing"

	"tabard/api"
	"tabard/heap"
)

func TestZero(t *testing.T) {
	for _, x := range []struct {
		t api.Type
		v api.Val
	}{
		{whole, num(0)}, {long, big(0)}, {named, to(0)},
		{api.Type{Kind: api.TyInt, Name: "a/B"}, num(0)}, {api.Type{Kind: api.TyLong, Name: "J"}, big(0)}, {api.Type{Kind: api.TyRef}, to(0)},
	} {
		if v, is := heap.Zero(x.t); v != x.v || !is {
			t.Errorf("Zero(%v) = %v, %t", x.t, v, is)
		}
	}
	for _, x := range placeTypes() {
		if _, is := heap.Zero(x); !is {
			t.Errorf("Zero(%v) is none", x)
		}
	}
	for _, x := range otherTypes() {
		if v, is := heap.Zero(x); v != (api.Val{}) || is {
			t.Errorf("Zero(%v) = %v, %t", x, v, is)
		}
	}
}

func TestFits(t *testing.T) {
	for _, x := range append(placeTypes(), otherTypes()...) {
		for _, v := range values() {
			if is := heap.Fits(x, v); is != meantFits(x, v) {
				t.Errorf("Fits(%v, %v) = %t", x, v, is)
			}
		}
	}
	for _, x := range []struct {
		t  api.Type
		v  api.Val
		is bool
	}{
		{whole, num(math.MaxInt32), true}, {whole, num(math.MinInt32), true}, {whole, num(math.MaxInt32 + 1), false}, {whole, num(math.MinInt32 - 1), false}, {whole, num(1 << 32), false},
		{long, big(math.MinInt64), true}, {long, big(math.MaxInt64), true},
		{named, to(0), true}, {named, to(math.MaxInt64), true}, {named, to(-1), false}, {named, to(math.MinInt64), false},
		{whole, big(0), false}, {whole, to(0), false}, {long, num(0), false}, {named, num(0), false}, {whole, api.Val{}, false},
		{api.Type{}, api.Val{}, false}, {api.Type{Kind: api.TyNull}, to(0), false}, {api.Type{Kind: api.VRef}, to(0), false}, {api.Type{Kind: 5}, api.Val{}, false},
	} {
		if is := heap.Fits(x.t, x.v); is != x.is {
			t.Errorf("Fits(%v, %v) = %t", x.t, x.v, is)
		}
	}
}

// TestZeroFits holds the first value of each type against it.
func TestZeroFits(t *testing.T) {
	for _, x := range append(placeTypes(), otherTypes()...) {
		if v, is := heap.Zero(x); heap.Fits(x, v) != is {
			t.Errorf("Fits(%v, %v) = %t", x, v, !is)
		}
	}
}
