package desc_test

import (
	"math"
	"slices"
	"strings"
	"testing"

	"tabard/api"
	"tabard/desc"
)

// withoutOne are types that have no descriptor.
func withoutOne() []api.Type {
	l := []api.Type{
		top, {Kind: api.TyNull}, {Kind: -1}, {Kind: 5}, {Kind: 'I'}, {Kind: math.MaxInt}, {Kind: math.MinInt}, {Kind: 1 << 32}, {Kind: 1<<32 + api.TyInt},
		{Kind: api.TyTop, Name: "A"}, {Kind: api.TyTop, Name: "V"}, {Kind: api.TyTop, Name: "I"}, {Kind: api.TyInt, Name: "I"}, {Kind: api.TyInt, Name: "A"}, {Kind: api.TyInt, Name: "[I"}, {Kind: api.TyLong, Name: "J"}, {Kind: api.TyNull, Name: "A"}, {Kind: 5, Name: "[I"},
	}
	for _, name := range []string{
		"", "[", "[[", "[V", "[A", "[L;", "[LA", "[II", "[I[", "[LA;;", "[LA;I", "[La//b;", "[()V", "/", "a//b", "a/", "/a", "A;", "LA;", "a;Lb", "I;J", ";", "<init>", "a.b", "a b", "\x00", "\u00e4", "[L\u00e4;",
		strings.Repeat("a", 254), strings.Repeat("a", 255), strings.Repeat("a", 256), strings.Repeat("[", 255) + "I", strings.Repeat("[", 255), strings.Repeat("a", 1<<24), strings.Repeat("[", 1<<24),
	} {
		l = append(l, ref(name))
	}
	return l
}

func TestPrint(t *testing.T) {
	for _, x := range []struct {
		t api.Type
		s string
	}{
		{num, "I"}, {long, "J"}, {ref("A"), "LA;"}, {ref("a/B"), "La/B;"}, {ref("I"), "LI;"}, {ref("V"), "LV;"}, {ref("()V"), "L()V;"},
		{ref("[I"), "[I"}, {ref("[[J"), "[[J"}, {ref("[La/B;"), "[La/B;"},
		{ref(strings.Repeat("a", 253)), "L" + strings.Repeat("a", 253) + ";"}, {ref(strings.Repeat("[", 254) + "J"), strings.Repeat("[", 254) + "J"},
	} {
		if s, e := desc.Print(x.t); e != api.OK || s != x.s {
			t.Error(x.t, s, e)
		}
	}
	for _, x := range withoutOne() {
		if s, e := desc.Print(x); e != api.ErrDesc || s != "" {
			t.Error(x.Kind, len(x.Name), s, e)
		}
	}
}

func TestPrintMethod(t *testing.T) {
	for _, x := range []struct {
		ret  api.Type
		args []api.Type
		s    string
	}{
		{top, nil, "()V"}, {num, nil, "()I"}, {long, []api.Type{}, "()J"}, {ref("A"), nil, "()LA;"}, {ref("[I"), nil, "()[I"},
		{top, []api.Type{num, ref("[J"), ref("a/B")}, "(I[JLa/B;)V"}, {ref("[[LC;"), []api.Type{long, long, ref("A"), num}, "(JJLA;I)[[LC;"}, {num, []api.Type{ref(")V")}, "(L)V;)I"},
	} {
		kept := slices.Clone(x.args)
		if s, e := desc.PrintMethod(x.ret, x.args...); e != api.OK || s != x.s {
			t.Error(x, s, e)
		}
		if !slices.Equal(x.args, kept) {
			t.Error("written to", x.args)
		}
	}
}

func TestPrintMethodRefuses(t *testing.T) {
	many := func(n int, last ...api.Type) []api.Type { return append(slices.Repeat([]api.Type{num}, n), last...) }
	for _, x := range withoutOne() {
		for _, args := range [][]api.Type{{x}, {num, x}, {x, num}, {num, x, long}, many(400, x), append([]api.Type{x}, many(400)...)} {
			if s, e := desc.PrintMethod(num, args...); e != api.ErrDesc || s != "" {
				t.Error(x.Kind, len(x.Name), len(args), s, e)
			}
		}
		if x == top {
			continue
		}
		// What it returns is asked ahead of the length, too.
		for _, args := range [][]api.Type{nil, {num}, many(252), many(253), many(400)} {
			if s, e := desc.PrintMethod(x, args...); e != api.ErrDesc || s != "" {
				t.Error(x.Kind, len(x.Name), len(args), s, e)
			}
		}
	}
	for _, x := range []struct {
		ret  api.Type
		args []api.Type
		e    api.Errno
	}{
		{top, many(252), api.OK}, {top, many(253), api.ErrLong}, {num, many(252), api.OK}, {num, many(253), api.ErrLong}, {ref("A"), many(250), api.OK}, {ref("A"), many(251), api.ErrLong},
		{top, []api.Type{ref(strings.Repeat("a", 250))}, api.OK}, {top, []api.Type{ref(strings.Repeat("a", 251))}, api.ErrLong}, {top, []api.Type{ref(strings.Repeat("a", 253))}, api.ErrLong},
		{ref(strings.Repeat("a", 251)), nil, api.OK}, {ref(strings.Repeat("a", 252)), nil, api.ErrLong}, {ref(strings.Repeat("[", 252) + "I"), nil, api.OK}, {ref(strings.Repeat("[", 253) + "I"), nil, api.ErrLong},
		{top, many(1 << 19), api.ErrLong},
	} {
		s, e := desc.PrintMethod(x.ret, x.args...)
		if e != x.e || (e == api.OK) != (len(s) == api.MaxText) || e != api.OK && s != "" {
			t.Error(len(x.args), len(s), e)
		}
	}
}

func TestArray(t *testing.T) {
	for _, x := range []struct {
		t api.Type
		s string
	}{
		{num, "[I"}, {long, "[J"}, {ref("I"), "[LI;"}, {ref("A"), "[LA;"}, {ref("a/B"), "[La/B;"}, {ref("[I"), "[[I"}, {ref("[[LA;"), "[[[LA;"},
		{ref(strings.Repeat("a", 252)), "[L" + strings.Repeat("a", 252) + ";"}, {ref(strings.Repeat("[", 253) + "I"), strings.Repeat("[", 254) + "I"},
	} {
		if got, e := desc.Array(x.t); e != api.OK || got != ref(x.s) {
			t.Error(x.t, got, e)
		}
	}
	for _, x := range []api.Type{ref(strings.Repeat("a", 253)), ref(strings.Repeat("[", 254) + "I"), ref("[L" + strings.Repeat("a", 252) + ";")} {
		if got, e := desc.Array(x); e != api.ErrLong || got != (api.Type{}) {
			t.Error(len(x.Name), got, e)
		}
	}
	for _, x := range withoutOne() {
		if got, e := desc.Array(x); e != api.ErrDesc || got != (api.Type{}) {
			t.Error(x.Kind, len(x.Name), got, e)
		}
	}
}

func TestElem(t *testing.T) {
	for _, x := range []struct {
		s string
		t api.Type
	}{
		{"[I", num}, {"[J", long}, {"[LA;", ref("A")}, {"[LI;", ref("I")}, {"[La/B;", ref("a/B")}, {"[[I", ref("[I")}, {"[[[LA;", ref("[[LA;")},
		{strings.Repeat("[", 254) + "I", ref(strings.Repeat("[", 253) + "I")}, {"[L" + strings.Repeat("a", 252) + ";", ref(strings.Repeat("a", 252))},
	} {
		if got, e := desc.Elem(ref(x.s)); e != api.OK || got != x.t {
			t.Error(x.s, got, e)
		}
	}
	// Of the last two the element has a descriptor, but they are too long themselves.
	for _, x := range append(withoutOne(), num, long, ref("A"), ref("I"), ref("a/B"), ref("LA"), ref("LLA"), ref(strings.Repeat("[", 255)+"J"), ref("[L"+strings.Repeat("a", 253)+";")) {
		if got, e := desc.Elem(x); e != api.ErrDesc || got != (api.Type{}) {
			t.Error(x.Kind, len(x.Name), got, e)
		}
	}
}

func TestSlots(t *testing.T) {
	for _, x := range []struct {
		l []api.Type
		n int
	}{
		{nil, 0}, {[]api.Type{}, 0}, {[]api.Type{num}, 1}, {[]api.Type{long}, 2}, {[]api.Type{ref("A")}, 1}, {[]api.Type{ref("[J")}, 1}, {[]api.Type{ref("J")}, 1}, {[]api.Type{top}, 1}, {[]api.Type{{Kind: api.TyNull}}, 1},
		{[]api.Type{num, long, ref("[J")}, 4}, {[]api.Type{long, long, long}, 6}, {[]api.Type{long, top, num, top, long}, 7},
		// Types that have no descriptor count as well.
		{[]api.Type{{Kind: -1}, {Kind: 99, Name: "A"}, {Kind: math.MaxInt}, {Kind: 1<<32 + api.TyLong}, ref("")}, 5}, {[]api.Type{{Kind: api.TyLong, Name: "A"}}, 2},
		{slices.Repeat([]api.Type{long, num}, 1<<16), 3 << 16},
	} {
		if n := desc.Slots(x.l...); n != x.n {
			t.Error(len(x.l), n)
		}
	}
}
