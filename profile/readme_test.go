package profile_test

import (
	"slices"
	"testing"

	"tabard/api"
	"tabard/profile"
)

// TestReadme is what README.md shows.
func TestReadme(t *testing.T) {
	p, s := profile.New(), api.Site{Func: 3, At: 4}
	if p.Enter(3) != 1 || p.Back(s) != 1 || p.Call(s, 9) != api.CallMono || p.Call(s, 8) != api.CallPoly || p.Call(s, 8) != api.CallPoly {
		t.Error("counts")
	}
	if l := p.Classes(s); !slices.Equal(l, []api.Seen{{Class: 8, N: 2}, {Class: 9, N: 1}}) {
		t.Error("Classes", l)
	}
	if class, is := p.Main(s); class != 8 || !is {
		t.Error("Main", class, is)
	}
	if l := slices.Collect(p.Hot(1)); !slices.Equal(l, []int{3}) {
		t.Error("Hot", l)
	}
	q := p.Clone()
	if !profile.Same(p, q) || q.Add(p) != api.OK || q.Entered(3) != 2 {
		t.Error("Add")
	}
	if q.Forget(3); q.Entered(3) != 0 || q.Kind(s) != api.CallNone || p.Entered(3) != 1 {
		t.Error("Forget")
	}
}
