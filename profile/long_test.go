package profile_test

import (
	"testing"

	"tabard/api"
	"tabard/profile"
)

const many = 1 << 18

// counted has many methods and sites: of the method f the count is 1 + f%5; the sites are of all kinds.
func counted() *profile.Profile {
	p := profile.New()
	for f := range many {
		for range 1 + f%5 {
			p.Enter(f)
		}
		s := at(f/8, f%8)
		p.Back(s)
		for class := range f % 6 {
			p.Call(s, class)
		}
	}
	return p
}

// TestManyRows would not end, if a call that is about one method or site went through all of them.
func TestManyRows(t *testing.T) {
	p := counted()
	for f := many - 1; f >= 0; f-- {
		s := at(f/8, f%8)
		if p.Entered(f) != int64(1+f%5) || p.Jumped(s) != 1 || len(p.Classes(s)) != min(f%6, 4) || p.Kind(s) != []int{0, 1, 2, 2, 2, 3}[f%6] {
			t.Fatal(f)
		}
	}
	n, last := 0, -1
	for f := range p.Hot(4) {
		// First those with 5, then those with 4, each from the least on.
		if f%5 < 3 || last >= 0 && (f%5 > last%5 || f%5 == last%5 && f < last) {
			t.Fatal(last, f)
		}
		n, last = n+1, f
	}
	if n != (many+1)/5+many/5 {
		t.Error(n)
	}
	c := p.Clone()
	if !profile.Same(p, c) || c.Add(p) != api.OK || c.Entered(4) != 10 || c.Kind(at(0, 5)) != api.CallMega || c.Add(c) != api.OK || c.Entered(4) != 20 {
		t.Error("Add")
	}
	c.Forget(5)
	if c.Entered(5) != 0 || c.Jumped(at(5, 1)) != 0 || c.Entered(6) != 8 || profile.Same(p, c) || !profile.Same(p, counted()) {
		t.Error("Forget")
	}
}

// TestForgottenTakesNoTime would not end, if each call still went through the room that forgotten rows had.
func TestForgottenTakesNoTime(t *testing.T) {
	p := profile.New()
	for i := range many {
		p.Back(at(1, i))
		p.Call(at(1, i), 1)
	}
	p.Forget(1)
	for range many / 4 {
		p.Forget(1)
		if c := p.Clone(); !profile.Same(c, p) || c.Add(p) != api.OK || c.Jumped(at(1, 0)) != 0 {
			t.Fatal("Clone")
		}
	}
}
