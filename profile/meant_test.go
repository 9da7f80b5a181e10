package profile_test

import (
	"math"
	"slices"
	"testing"

	"tabard/api"
	"tabard/profile"
)

// What the document says, kept the plainest way: a list of all that was counted, one behind the other, which each question goes through from its beginning.

// event is something that was counted n times: of a method, of a site, of a class at a site, or that a site is mega.
type event struct {
	what  string // enter, back, call, mega
	site  api.Site
	class int
	n     int64
}

type meant struct{ events []event }

func (m *meant) count(x event) { m.events = append(m.events, x) }

// capped is a sum that is no more than the greatest count.
func capped(sum int64) int64 {
	if sum > 1<<40 {
		return 1 << 40
	}
	return sum
}

// sum is how often something was counted.
func (m *meant) sum(x event) int64 {
	sum := int64(0)
	for _, y := range m.events {
		if y.what == x.what && y.site == x.site && y.class == x.class {
			sum = capped(sum + y.n)
		}
	}
	return sum
}

func (m *meant) entered(f int) int64 { return m.sum(event{what: "enter", site: api.Site{Func: f}}) }

func (m *meant) jumped(s api.Site) int64 { return m.sum(event{what: "back", site: s}) }

// called is a site's classes, in the order in which they came, and whether it is mega.
func (m *meant) called(s api.Site) ([]int, bool) {
	var classes []int
	mega := false
	for _, y := range m.events {
		switch {
		case y.site != s:
		case y.what == "mega":
			mega = true
		case y.what != "call" || slices.Contains(classes, y.class):
		case len(classes) == 4:
			mega = true
		default:
			classes = append(classes, y.class)
		}
	}
	return classes, mega
}

// classes takes from those that are left, again and again, the one that comes first.
func (m *meant) classes(s api.Site) []api.Seen {
	left, _ := m.called(s)
	var l []api.Seen
	for len(left) > 0 {
		best, at := api.Seen{}, -1
		for i, class := range left {
			n := m.sum(event{what: "call", site: s, class: class})
			if at < 0 || n > best.N || n == best.N && class < best.Class {
				best, at = api.Seen{Class: class, N: n}, i
			}
		}
		l = append(l, best)
		left = slices.Delete(left, at, at+1)
	}
	return l
}

func (m *meant) kind(s api.Site) int {
	classes, mega := m.called(s)
	if mega {
		return 3
	}
	return []int{0, 1, 2, 2, 2}[len(classes)]
}

func (m *meant) hot(least int64) []int {
	var left, l []int
	for _, y := range m.events {
		if f := y.site.Func; y.what == "enter" && m.entered(f) >= least && !slices.Contains(left, f) {
			left = append(left, f)
		}
	}
	for len(left) > 0 {
		at := 0
		for i, f := range left {
			if n, most := m.entered(f), m.entered(left[at]); n > most || n == most && f < left[at] {
				at = i
			}
		}
		l = append(l, left[at])
		left = slices.Delete(left, at, at+1)
	}
	return l
}

func (m *meant) forget(f int) {
	m.events = slices.DeleteFunc(m.events, func(y event) bool { return y.site.Func == f })
}

// sites are those of which something was counted.
func (m *meant) sites() []api.Site {
	var l []api.Site
	for _, y := range m.events {
		if !slices.Contains(l, y.site) {
			l = append(l, y.site)
		}
	}
	return l
}

// add counts at once what the other one has counted bit by bit; what is 0 is no event.
func (m *meant) add(q *meant) {
	q = q.clone()
	for _, s := range q.sites() {
		if s.At == 0 { // A method's events stand at the place 0.
			m.count(event{"enter", s, 0, q.entered(s.Func)})
		}
		m.count(event{"back", s, 0, q.jumped(s)})
		for _, x := range q.classes(s) {
			m.count(event{"call", s, x.Class, x.N})
		}
		if q.kind(s) == 3 {
			m.count(event{"mega", s, 0, 1})
		}
	}
	m.events = slices.DeleteFunc(m.events, func(y event) bool { return y.n == 0 })
}

func (m *meant) clone() *meant { return &meant{slices.Clone(m.events)} }

// same holds all answers against each other that may be other than nothing.
func (m *meant) same(q *meant) bool {
	for _, s := range append(m.sites(), q.sites()...) {
		if m.entered(s.Func) != q.entered(s.Func) || m.jumped(s) != q.jumped(s) || m.kind(s) != q.kind(s) || !slices.Equal(m.classes(s), q.classes(s)) {
			return false
		}
	}
	return true
}

// check asks all of a profile: of what was counted, of what is beside it, and of what is far off.
func check(t *testing.T, p *profile.Profile, m *meant) {
	t.Helper()
	for _, s := range m.sites() {
		for _, f := range []int{s.Func, s.Func - 1, s.Func + 1, s.At, s.Func + 1<<32} {
			checkSite(t, p, m, api.Site{Func: f, At: s.At})
			checkSite(t, p, m, api.Site{Func: f, At: s.At + 1})
			checkSite(t, p, m, api.Site{Func: s.At, At: f})
		}
	}
	for _, s := range farSites() {
		checkSite(t, p, m, s)
	}
	checkHot(t, p, m)
}

func checkSite(t *testing.T, p *profile.Profile, m *meant, s api.Site) {
	t.Helper()
	if n, want := p.Entered(s.Func), m.entered(s.Func); n != want {
		t.Fatalf("Entered(%d) = %d, not %d", s.Func, n, want)
	}
	if n, want := p.Jumped(s), m.jumped(s); n != want {
		t.Fatalf("Jumped(%v) = %d, not %d", s, n, want)
	}
	kind, classes := m.kind(s), m.classes(s)
	if k := p.Kind(s); k != kind {
		t.Fatalf("Kind(%v) = %d, not %d", s, k, kind)
	}
	if l := p.Classes(s); !slices.Equal(l, classes) {
		t.Fatalf("Classes(%v) = %v, not %v", s, l, classes)
	}
	class, is := p.Main(s)
	if want := kind == 1 || kind == 2; is != want || is && class != classes[0].Class || !is && class != 0 {
		t.Fatalf("Main(%v) = %d, %t of %v", s, class, is, classes)
	}
}

func checkHot(t *testing.T, p *profile.Profile, m *meant) {
	t.Helper()
	leasts := []int64{math.MinInt64, -1 << 32, -1, 0, 1, 2, 1<<40 - 1, 1 << 40, 1<<40 + 1, math.MaxInt64}
	for _, s := range m.sites() {
		if n := m.entered(s.Func); !slices.Contains(leasts, n) {
			leasts = append(leasts, n-1, n, n+1)
		}
	}
	for _, least := range leasts {
		if l, want := slices.Collect(p.Hot(least)), m.hot(least); !slices.Equal(l, want) {
			t.Fatalf("Hot(%d) = %v, not %v", least, l, want)
		}
	}
}
