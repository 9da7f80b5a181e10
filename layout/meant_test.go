package layout_test

import (
	"slices"
	"testing"

	"tabard/api"
	"tabard/desc"
	"tabard/hier"
	"tabard/layout"
)

// What the document says, kept the plainest way: classes by texts, by their numbers; every question goes through lists.

func builtIn() []decl {
	l := []decl{{class: object + ":"}, {class: throwable}}
	for _, name := range []string{"Arithmetic", "NullPointer", "ArrayIndexOutOfBounds", "NegativeArraySize", "ClassCast", "ArrayStore"} {
		l = append(l, decl{class: "java/lang/" + name + "Exception:" + throwable})
	}
	return l
}

type meant []decl

// what is a member: which class has it, and as which of its fields, or of its methods.
type what struct {
	memb
	class, i int
}

func (m meant) has(n int) bool { return n >= 0 && n < len(m) }

func (m meant) super(n int) int {
	return slices.IndexFunc(m, func(d decl) bool { return d.name() == m[n].super() })
}

func (m meant) fields(n int) []what { return whats(n, m[n].fields) }

func (m meant) methods(n int) []what { return whats(n, m[n].methods) }

func whats(n int, l []string) []what {
	var all []what
	for i, x := range readAll(l) {
		all = append(all, what{x, n, i})
	}
	return all
}

// funcs are all methods by their numbers, statics the static fields.
func (m meant) funcs() []what {
	var all []what
	for n := range m {
		all = append(all, m.methods(n)...)
	}
	return all
}

func (m meant) statics() []what {
	var all []what
	for n := range m {
		for _, x := range m.fields(n) {
			if x.static {
				all = append(all, x)
			}
		}
	}
	return all
}

// object is the fields of a class's objects by their places.
func (m meant) object(n int) []what {
	if n < 0 {
		return nil
	}
	all := m.object(m.super(n))
	for _, x := range m.fields(n) {
		if !x.static {
			all = append(all, x)
		}
	}
	return all
}

// table is the methods of a class by their slots.
func (m meant) table(n int) []what {
	if n < 0 {
		return nil
	}
	all := m.table(m.super(n))
	for _, x := range m.methods(n) {
		if x.static || x.name == "<init>" {
			continue
		}
		slot := slices.IndexFunc(all, func(y what) bool { return y.name == x.name && y.desc == x.desc })
		if slot < 0 {
			all = append(all, x)
		} else {
			all[slot] = x
		}
	}
	return all
}

func kind(x what) api.Type {
	t, _ := desc.Field(x.desc)
	return t
}

func (m meant) field(n int, name, desc string) (api.Place, bool) {
	for ; m.has(n); n = m.super(n) {
		for _, x := range m.fields(n) {
			if x.name != name || x.desc != desc {
				continue
			}
			if x.static {
				return api.Place{Class: n, Static: true, N: slices.Index(m.statics(), x), Type: kind(x)}, true
			}
			return api.Place{Class: n, N: slices.Index(m.object(n), x), Type: kind(x)}, true
		}
	}
	return api.Place{}, false
}

func (m meant) method(n int, name, desc string) (api.Spot, bool) {
	for ; m.has(n); n = m.super(n) {
		for _, x := range m.methods(n) {
			if x.name == name && x.desc == desc {
				return m.spot(x), true
			}
		}
		if name == "<init>" {
			break
		}
	}
	return api.Spot{}, false
}

func (m meant) spot(x what) api.Spot {
	return api.Spot{Class: x.class, Method: x.i, Number: slices.Index(m.funcs(), x)}
}

// alike tells whether methods are static where the nearest ones above them are.
func (m meant) alike() bool {
	for _, x := range m.funcs() {
		if x.name == "<init>" {
			continue
		}
		y, is := m.method(m.super(x.class), x.name, x.desc)
		if is && m.funcs()[y.Number].static != x.static {
			return false
		}
	}
	return true
}

// held makes a layout of classes that have just one fault, if any: that they are not alike; and holds what it is against what is meant.
func held(t *testing.T, l ...decl) *layout.Layout {
	t.Helper()
	m := append(meant(builtIn()), l...)
	want := api.OK
	if !m.alike() {
		want = api.ErrAlike
	}
	made, e := layout.New(hierarchy(t, l), files(l)...)
	if e != want || (made == nil) != (e != api.OK) {
		t.Fatal("New", l, made, e, want)
	}
	if e == api.OK {
		m.hold(t, made)
		m.follows(t, made)
	}
	return made
}

func (m meant) hold(t *testing.T, l *layout.Layout) {
	t.Helper()
	m.holdLists(t, l)
	all := append(far(), -2, -1)
	for n := range len(m.funcs()) + 3 {
		all = append(all, n)
	}
	for _, n := range all {
		m.holdFunc(t, l, n)
	}
	asked := m.asked()
	for _, n := range append(far(), -2, -1, len(m), len(m)+1) {
		m.holdClass(t, l, n, asked[:min(9, len(asked))])
	}
	for n := range m {
		m.holdClass(t, l, n, asked)
	}
}

func (m meant) holdLists(t *testing.T, l *layout.Layout) {
	t.Helper()
	klasses := l.Klasses()
	if len(klasses) != len(m) {
		t.Fatal("Klasses", len(klasses))
	}
	for n, k := range klasses {
		if k.Name != m[n].name() || k.Super != m.super(n) || !slices.EqualFunc(k.Fields, m.object(n), func(a api.Type, x what) bool { return a == kind(x) }) || !slices.EqualFunc(k.Table, m.table(n), func(a int, x what) bool { return a == m.spot(x).Number }) {
			t.Error("Klasses", m, n, k)
		}
	}
	if types := l.Statics(); !slices.EqualFunc(types, m.statics(), func(a api.Type, x what) bool { return a == kind(x) }) {
		t.Error("Statics", m, types)
	}
	if l.Funcs() != len(m.funcs()) {
		t.Error("Funcs", m, l.Funcs())
	}
}

func (m meant) holdFunc(t *testing.T, l *layout.Layout, n int) {
	t.Helper()
	var spot api.Spot
	slot, there := -1, n >= 0 && n < len(m.funcs())
	if there {
		x := m.funcs()[n]
		spot = m.spot(x)
		slot = slices.Index(m.table(x.class), x)
	}
	if s, is := l.Func(n); s != spot || is != there {
		t.Error("Func", m, n, s, is)
	}
	if got := l.Slot(n); got != slot {
		t.Error("Slot", m, n, got, slot)
	}
}

func (m meant) holdClass(t *testing.T, l *layout.Layout, n int, asked []memb) {
	t.Helper()
	for _, x := range asked {
		p, is := l.Field(n, x.name, x.desc)
		if want, yes := m.field(n, x.name, x.desc); p != want || is != yes {
			t.Error("Field", m, n, x, p, is, want)
		}
		s, is := l.Method(n, x.name, x.desc)
		if want, yes := m.method(n, x.name, x.desc); s != want || is != yes {
			t.Error("Method", m, n, x, s, is, want)
		}
	}
	var table []what
	if m.has(n) {
		table = m.table(n)
	}
	for _, slot := range append(far(), -2, -1, len(table), len(table)+1) {
		if k, is := l.Select(n, slot); k != 0 || is {
			t.Error("Select", m, n, slot, k, is)
		}
	}
	for slot, x := range table {
		if k, is := l.Select(n, slot); k != m.spot(x).Number || !is {
			t.Error("Select", m, n, slot, k, is)
		}
	}
}

// asked are the signatures of all members, and such as are nearly these: those that a text put together from both would not tell from them, too.
func (m meant) asked() []memb {
	var l []memb
	for n := range m {
		for _, x := range append(m.fields(n), m.methods(n)...) {
			l = append(l, memb{name: x.name, desc: x.desc})
		}
	}
	for _, x := range slices.Clone(l) {
		both := x.name + x.desc
		l = append(l, memb{name: x.name + "x", desc: x.desc}, memb{name: x.name, desc: x.desc + ";"}, memb{name: x.desc, desc: x.name}, memb{name: x.name}, memb{desc: x.desc}, memb{name: x.name + " ", desc: x.desc})
		for i := range len(both) + 1 {
			l = append(l, memb{name: both[:i], desc: both[i:]})
		}
	}
	l = append(l, memb{}, memb{name: "<init>", desc: "()V"}, memb{name: "f", desc: "()V"}, memb{name: "x", desc: "I"})
	slices.SortFunc(l, func(a, b memb) int { return compare(a.name+"\x00"+a.desc, b.name+"\x00"+b.desc) })
	return slices.Compact(l)
}

func compare(a, b string) int {
	switch {
	case a < b:
		return -1
	case a > b:
		return 1
	}
	return 0
}

// follows is P8.5 and P8.6, of what the layout itself says.
func (m meant) follows(t *testing.T, l *layout.Layout) {
	t.Helper()
	klasses := l.Klasses()
	funcs := m.funcs()
	for n, k := range klasses {
		for above := n; above >= 0; above = klasses[above].Super {
			a := klasses[above]
			if len(a.Fields) > len(k.Fields) || !slices.Equal(a.Fields, k.Fields[:len(a.Fields)]) || len(a.Table) > len(k.Table) {
				t.Error("places", m, n, above)
				continue
			}
			for slot, f := range a.Table {
				g := k.Table[slot]
				if funcs[f].name != funcs[g].name || funcs[f].desc != funcs[g].desc || l.Slot(f) != slot || l.Slot(g) != slot {
					t.Error("slots", m, n, above, slot, f, g)
				}
				s, is := l.Method(n, funcs[f].name, funcs[f].desc)
				if number, yes := l.Select(n, l.Slot(f)); number != s.Number || !is || !yes || number != g {
					t.Error("nearest", m, n, above, slot, s, number)
				}
			}
		}
		for _, x := range m.fields(n) {
			p, is := l.Field(n, x.name, x.desc)
			if !is || p.Class != n || !p.Static && k.Fields[p.N] != p.Type || p.Static && l.Statics()[p.N] != p.Type {
				t.Error("field", m, n, x, p, is)
			}
		}
	}
}

// zeroHier is a hierarchy that no call made.
func zeroHier() *hier.Hier { return new(hier.Hier) }
