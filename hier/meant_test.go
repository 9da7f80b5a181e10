package hier_test

import (
	"slices"
	"testing"

	"tabard/api"
	"tabard/hier"
)

// What the document says, kept the plainest way: lines alone; every question goes through all of them, and up line by line.

const object, throwable = "java/lang/Object", "java/lang/Throwable"

// builtIn is the document's list.
func builtIn() []api.Line {
	l := []api.Line{{Name: object}, {Name: throwable, Super: object}}
	for _, name := range []string{"Arithmetic", "NullPointer", "ArrayIndexOutOfBounds", "NegativeArraySize", "ClassCast", "ArrayStore"} {
		l = append(l, api.Line{Name: "java/lang/" + name + "Exception", Super: throwable})
	}
	return l
}

type meant []api.Line

func (m meant) has(n int) bool { return n >= 0 && n < len(m) }

func (m meant) name(n int) string {
	if !m.has(n) {
		return ""
	}
	return m[n].Name
}

func (m meant) find(name string) (int, bool) {
	for n, x := range m {
		if x.Name == name {
			return n, true
		}
	}
	return 0, false
}

func (m meant) super(n int) int {
	if !m.has(n) || n == 0 {
		return -1
	}
	super, is := m.find(m[n].Super)
	if !is {
		return -2
	}
	return super
}

// up is a class and all above it; false, if there is no end.
func (m meant) up(n int) ([]int, bool) {
	var l []int
	for ; n >= 0; n = m.super(n) {
		if slices.Contains(l, n) {
			return nil, false
		}
		l = append(l, n)
	}
	return l, true
}

func (m meant) depth(n int) int {
	if !m.has(n) {
		return -1
	}
	l, _ := m.up(n)
	return len(l) - 1
}

func (m meant) under(a, b int) bool {
	l, _ := m.up(a)
	return m.has(a) && m.has(b) && slices.Contains(l, b)
}

func (m meant) common(a, b int) int {
	if !m.has(a) || !m.has(b) {
		return -1
	}
	overA, _ := m.up(a)
	overB, _ := m.up(b)
	found := -1
	for n := range m {
		if slices.Contains(overA, n) && slices.Contains(overB, n) && m.depth(n) > m.depth(found) {
			found = n
		}
	}
	return found
}

func (m meant) order() []int {
	var l []int
	for depth := range m {
		for n := range m {
			if m.depth(n) == depth {
				l = append(l, n)
			}
		}
	}
	return l
}

func (m meant) subs(n int) []int {
	var l []int
	for k := range m {
		if n >= 0 && m.super(k) == n {
			l = append(l, k)
		}
	}
	return l
}

// meantNew is the error that New must answer, and what it makes of no error.
func meantNew(lines []api.Line) (meant, api.Errno) {
	if len(lines) > 64 {
		return nil, api.ErrLong
	}
	m := append(meant(builtIn()), lines...)
	for n := range m {
		if first, _ := m.find(m[n].Name); first != n {
			return nil, api.ErrName
		}
	}
	for n := range m {
		if m.super(n) == -2 {
			return nil, api.ErrSuper
		}
	}
	for n := range m {
		if _, ends := m.up(n); !ends {
			return nil, api.ErrCycle
		}
	}
	return m, api.OK
}

// held makes a hierarchy and holds what it is, or its error, against what is meant.
func held(t *testing.T, lines ...api.Line) *hier.Hier {
	t.Helper()
	h, e := hier.New(lines...)
	m, is := meantNew(lines)
	if e != is || (h == nil) != (e != api.OK) {
		t.Fatal("New", lines, h, e, is)
	}
	if e == api.OK {
		m.hold(t, h)
	}
	return h
}

func (m meant) hold(t *testing.T, h *hier.Hier) {
	t.Helper()
	if h.Len() != len(m) {
		t.Error("Len", h.Len(), len(m))
	}
	if l := slices.Collect(h.Order()); !slices.Equal(l, m.order()) {
		t.Error("Order", l, m.order())
	}
	for n := -2; n < len(m)+2; n++ {
		m.holdOne(t, h, n)
	}
	for _, n := range far() {
		m.holdOne(t, h, n)
	}
	// More pairs take the plain way too long, where there are many classes.
	step := 1 + len(m)/16
	for a := -2; a < len(m)+2; a += step {
		for b := -2; b < len(m)+2; b++ {
			m.holdTwo(t, h, a, b)
		}
	}
}

func (m meant) holdOne(t *testing.T, h *hier.Hier, n int) {
	t.Helper()
	if h.Name(n) != m.name(n) || h.Super(n) != m.super(n) || h.Depth(n) != m.depth(n) {
		t.Error("Name, Super, Depth", n, h.Name(n), h.Super(n), h.Depth(n))
	}
	if l := h.Subs(n); !slices.Equal(l, m.subs(n)) {
		t.Error("Subs", n, l, m.subs(n))
	}
	for _, name := range []string{m.name(n), m.name(n) + "x", "x" + m.name(n)} {
		k, is := h.Find(name)
		if want, yes := m.find(name); k != want || is != yes {
			t.Error("Find", name, k, is)
		}
	}
}

func (m meant) holdTwo(t *testing.T, h *hier.Hier, a, b int) {
	t.Helper()
	if h.Under(a, b) != m.under(a, b) || h.Under(b, a) != m.under(b, a) {
		t.Error("Under", a, b, h.Under(a, b), h.Under(b, a))
	}
	if want := m.common(a, b); h.Common(a, b) != want || h.Common(b, a) != want {
		t.Error("Common", a, b, h.Common(a, b), h.Common(b, a), want)
	}
}
