package profile_test

import (
	"slices"
	"testing"

	"tabard/api"
	"tabard/profile"
)

// TestExample is the chapter's.
func TestExample(t *testing.T) {
	p, s := profile.New(), at(0, 3)
	for i, want := range []int{api.CallMono, api.CallMono, api.CallPoly} {
		if k := p.Call(s, []int{8, 8, 9}[i]); k != want {
			t.Error(i, k)
		}
	}
	if class, is := p.Main(s); class != 8 || !is {
		t.Error("Main", class, is)
	}
	for class := 10; class < 13; class++ {
		p.Call(s, class)
	}
	if class, is := p.Main(s); p.Kind(s) != api.CallMega || class != 0 || is {
		t.Error("of five classes", class, is)
	}
}

// TestCalls has all orders in which six classes may be seen, up to seven of them.
func TestCalls(t *testing.T) {
	s := at(2, 1)
	var goOn func(x pair, left int)
	goOn = func(x pair, left int) {
		checkSite(t, x.p, x.m, s)
		for class := 0; class < 6 && left > 0; class++ {
			y := x.clone()
			y.call(s, class)
			goOn(y, left-1)
		}
	}
	goOn(newPair(t), 6)
}

// TestSumOfClasses is P14.5: as long as a site is not mega, each call is found in one of its classes' counts.
func TestSumOfClasses(t *testing.T) {
	n := numbers(5)
	mega := 0
	for range 300 {
		x, s := newPair(t), at(n.below(3), n.below(3))
		for calls := int64(1); calls < 30; calls++ {
			x.call(s, n.below(n.below(7)+1))
			x.call(at(s.Func+1, s.At), 3)
			sum := int64(0)
			for _, y := range x.p.Classes(s) {
				sum += y.N
			}
			if x.p.Kind(s) == api.CallMega {
				mega++
			} else if sum != calls {
				t.Fatal(sum, calls)
			}
		}
	}
	if mega == 0 {
		t.Error("none is mega")
	}
}

// TestMegaStays counts on where a site is mega: the classes that are there are counted, and no other one.
func TestMegaStays(t *testing.T) {
	x, s := newPair(t), at(1, 1)
	x.call(s, 1, 2, 3, 4, 5)
	for range 3 {
		x.call(s, 4, 6, 5, 4, 1, 7)
		x.check()
	}
	if l := x.p.Classes(s); !slices.Equal(l, []api.Seen{{Class: 4, N: 7}, {Class: 1, N: 4}, {Class: 2, N: 1}, {Class: 3, N: 1}}) {
		t.Error(l)
	}
}

// TestSameCounts has classes of the same counts, which are told by their numbers.
func TestSameCounts(t *testing.T) {
	for _, l := range [][]int{{9, 8}, {8, 9}, {-1, 0}, {0, -1}, {4, 3, 2, 1}, {1, 3, 2, 4}, {5, 7, 6, 5, 7, 6, 8}, {1, 2, 2, 1}, {2, 1, 2, 3, 1, 4}} {
		x := newPair(t)
		x.call(at(0, 0), l...)
		x.check()
	}
}

// TestNobodysElse writes to what was answered, also behind its end.
func TestNobodysElse(t *testing.T) {
	x := sample(t)
	for range 2 {
		for _, s := range x.m.sites() {
			l := x.p.Classes(s)
			for i := range l {
				l[i] = api.Seen{Class: 77, N: -1}
			}
			_ = append(x.p.Classes(s), api.Seen{Class: 5}, api.Seen{Class: 6})
		}
		x.check()
		x = x.clone()
	}
}
