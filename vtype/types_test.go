package vtype_test

import (
	"strings"
	"testing"

	"tabard/api"
	"tabard/vtype"
)

// TestPairs holds Valid, Fits and Join against the plain reading, of all types and pairs of them.
func TestPairs(t *testing.T) {
	for _, family := range families() {
		h, m := made(t, family...)
		l := types(family)
		for _, a := range l {
			if vtype.Valid(h, a) != m.valid(a) {
				t.Error("Valid", family, a)
			}
			for _, b := range l {
				if vtype.Fits(h, a, b) != m.fits(a, b) {
					t.Error("Fits", family, a, b)
				}
				want, one := m.join(a, b)
				if x := vtype.Join(h, a, b); x != want || !one {
					t.Error("Join", family, a, b, x, want, one)
				}
			}
		}
	}
}

func TestValid(t *testing.T) {
	h, _ := made(t, "A", "A;", "a[")
	for _, x := range []api.Type{top(), num(), long(), null(), ref("A"), ref("A;"), ref(object), ref(exception("ArrayStore")), ref("[I"), ref("[J"), ref("[LA;"), ref("[LA;;"), ref("[La[;"), ref("[[[J"), ref(dims(16) + "I"), ref(dims(16) + "LA;")} {
		if !vtype.Valid(h, x) {
			t.Error(x)
		}
	}
	for _, x := range []api.Type{{Kind: api.TyTop, Name: "A"}, {Kind: api.TyInt, Name: "I"}, {Kind: api.TyLong, Name: " "}, {Kind: api.TyNull, Name: "A"}, {Kind: 5}, {Kind: -1}, {Kind: 5, Name: "A"}, ref(""), ref("X"), ref("a"), ref("["), ref("[X"), ref("[LX;"), ref("[LA"), ref("[L;"), ref("[L[I;"), ref("[LA;;;"), ref("[V"), ref("[II"), ref(dims(17) + "I"), ref(dims(17) + "LA;"), ref(dims(16))} {
		if vtype.Valid(h, x) {
			t.Error(x)
		}
	}
}

func TestElement(t *testing.T) {
	for name, want := range map[string]api.Type{
		"[I": num(), "[J": long(), "[LA;": ref("A"), "[LX/y;": ref("X/y"), "[L;;": ref(";"), "[LA;;": ref("A;"), "[LL;": ref("L"), "[LI;": ref("I"), "[LA[;": ref("A["), "[L\xff\x00;": ref("\xff\x00"), "[LL[I;;": ref("L[I;"),
		"[[I": ref("[I"), "[[LA;": ref("[LA;"), "[[": ref("["), "[[X": ref("[X"), "[[L;": ref("[L;"), "[[L[I;": ref("[L[I;"), dims(16) + "J": ref(dims(15) + "J"), dims(17) + "I": ref(dims(16) + "I"), dims(99): ref(dims(98)),
	} {
		if x, is := vtype.Element(ref(name)); x != want || !is {
			t.Error(name, x, is)
		}
		for _, kind := range []int{api.TyTop, api.TyInt, api.TyLong, api.TyNull, 5, -4} {
			if x, is := vtype.Element(api.Type{Kind: kind, Name: name}); x != top() || is {
				t.Error(kind, name, x, is)
			}
		}
	}
	for _, name := range []string{"", "A", "I", "LA;", object, "[", "[X", "[V", "[i", "[II", "[JI", "[I;", "[IJ", "[ I", "[L", "[LA", "[A;", "[;", "[L;", "[L[;", "[L[I;", "[L[LA;;", "[l;", " [I", "]I"} {
		if x, is := vtype.Element(ref(name)); x != top() || is {
			t.Error(name, x, is)
		}
	}
	for _, x := range []api.Type{top(), num(), long(), null(), {Kind: 5}} {
		if y, is := vtype.Element(x); y != top() || is {
			t.Error(x, y, is)
		}
	}
}

func TestArray(t *testing.T) {
	for _, x := range []struct {
		of   api.Type
		name string
	}{
		{num(), "[I"}, {long(), "[J"}, {api.Type{Kind: api.TyInt, Name: "x"}, "[I"}, {api.Type{Kind: api.TyLong, Name: "["}, "[J"},
		{ref("A"), "[LA;"}, {ref("X/y"), "[LX/y;"}, {ref("I"), "[LI;"}, {ref(";"), "[L;;"}, {ref("LA;"), "[LLA;;"}, {ref("]"), "[L];"}, {ref("A" + dims(40)), "[LA" + dims(40) + ";"},
		{ref("[I"), "[[I"}, {ref("[LA;"), "[[LA;"}, {ref("["), "[["}, {ref("[X"), "[[X"}, {ref("[L;"), "[[L;"}, {ref("[LA" + dims(40) + ";"), "[[LA" + dims(40) + ";"}, {ref(dims(15) + "I"), dims(16) + "I"}, {ref(dims(15)), dims(16)}, {ref(dims(15) + "L" + dims(9)), dims(16) + "L" + dims(9)},
	} {
		if y, is := vtype.Array(x.of); y != ref(x.name) || !is {
			t.Error(x, y, is)
		}
	}
	for _, x := range []api.Type{top(), null(), {Kind: api.TyNull, Name: "A"}, {Kind: api.TyTop, Name: "A"}, {Kind: 5, Name: "A"}, {Kind: -1, Name: "[I"}, ref(""), ref(dims(16) + "I"), ref(dims(16) + "LA;"), ref(dims(16)), ref(dims(17) + "I"), ref(dims(300))} {
		if y, is := vtype.Array(x); y != top() || is {
			t.Error(x, y, is)
		}
	}
}

// TestThereAndBack has Array and Element one behind the other: of each valid type that has arrays, and of all names.
func TestThereAndBack(t *testing.T) {
	for _, family := range families() {
		h, _ := made(t, family...)
		for _, x := range types(family) {
			a, is := vtype.Array(x)
			e, too := vtype.Element(a)
			if valid := vtype.Valid(h, x); valid && is != (x != top() && x != null() && !strings.HasPrefix(x.Name, dims(16))) || valid && is && !vtype.Valid(h, a) {
				t.Error(family, x, a, is)
			}
			if is && vtype.Valid(h, a) && (e.Kind != x.Kind || !too || x.Kind == api.TyRef && e != x) {
				t.Error(family, x, a, e, too)
			}
			if e, is := vtype.Element(x); is && vtype.Valid(h, x) {
				if a, is := vtype.Array(e); a != x || !is || !vtype.Valid(h, e) {
					t.Error(family, x, e, a, is)
				}
			}
		}
	}
}

// TestExamples is the document's examples, and arrays beside them.
func TestExamples(t *testing.T) {
	h, _ := made(t, "C", "A:C", "B:C", "D:A")
	for _, x := range []struct {
		a, b, join string
		fits       bool
	}{
		{"[LA;", "[LB;", "[LC;", false}, {"[I", "[J", object, false}, {"[LA;", "[LC;", "[LC;", true}, {"[LD;", "[LC;", "[LC;", true}, {"[LD;", "[LB;", "[LC;", false}, {"D", "C", "C", true}, {"D", "B", "C", false},
		{"[I", object, object, true}, {"[LA;", object, object, true}, {"[I", "A", object, false}, {"[LA;", "C", object, false}, {"[LA;", "A", object, false}, {"[I", throwable, object, false},
		{"[[I", "[L" + object + ";", "[L" + object + ";", true}, {"[[I", "[I", object, false}, {"[[I", "[[J", "[L" + object + ";", false}, {"[[I", "[LA;", "[L" + object + ";", false}, {"[[[I", "[[J", "[L" + object + ";", false}, {"[[[LA;", "[[LB;", "[[L" + object + ";", false}, {"[[[LA;", "[[[LB;", "[[[LC;", false},
		{"[I", "[L" + object + ";", object, false}, {"[I", "[LA;", object, false}, {"[LE;", "[LA;", "", false}, {"E", object, "", false},
		{dims(16) + "LA;", dims(16) + "LB;", dims(16) + "LC;", false}, {dims(16) + "LA;", dims(16) + "I", dims(15) + "L" + object + ";", false}, {dims(16) + "J", dims(16) + "I", dims(15) + "L" + object + ";", false}, {dims(16) + "LA;", dims(17) + "LA;", "", false}, {dims(16) + "I", dims(15) + "L" + object + ";", dims(15) + "L" + object + ";", true},
	} {
		want := ref(x.join)
		if x.join == "" {
			want = top()
		}
		if j, k := vtype.Join(h, ref(x.a), ref(x.b)), vtype.Join(h, ref(x.b), ref(x.a)); j != want || k != want {
			t.Error("Join", x, j, k)
		}
		if vtype.Fits(h, ref(x.a), ref(x.b)) != x.fits || vtype.Fits(h, ref(x.b), ref(x.a)) {
			t.Error("Fits", x)
		}
	}
	if x := vtype.Join(h, num(), long()); x != top() {
		t.Error(x)
	}
	if x, is := vtype.Element(ref("[[I")); x != ref("[I") || !is {
		t.Error(x, is)
	}
}

func TestSlots(t *testing.T) {
	for _, x := range []struct {
		n int
		l []api.Type
	}{
		{0, nil}, {0, []api.Type{}}, {1, []api.Type{top()}}, {1, []api.Type{num()}}, {2, []api.Type{long()}}, {1, []api.Type{null()}}, {1, []api.Type{ref("A")}}, {1, []api.Type{ref("[J")}}, {1, []api.Type{ref("long")}},
		{2, []api.Type{{Kind: api.TyLong, Name: "x"}}}, {1, []api.Type{{Kind: 5}}}, {1, []api.Type{{Kind: 1<<32 + 2}}}, {1, []api.Type{{Kind: -2}}},
		{3, []api.Type{num(), long()}}, {3, []api.Type{long(), top()}}, {6, []api.Type{long(), long(), long()}}, {9, []api.Type{top(), long(), num(), null(), long(), ref("A"), {Kind: -1}}},
	} {
		if n := vtype.Slots(x.l...); n != x.n {
			t.Error(x, n)
		}
	}
	if vtype.Slots() != 0 || vtype.Slots(num(), long()) != 3 {
		t.Error("Slots")
	}
}

func TestText(t *testing.T) {
	for x, s := range map[api.Type]string{
		top(): "top", num(): "int", long(): "long", null(): "null", ref("A"): "A", ref("[LA;"): "[LA;", ref(""): "", ref("?"): "?", ref("X\x00"): "X\x00",
		{Kind: api.TyTop, Name: "x"}: "top", {Kind: api.TyInt, Name: "x"}: "int", {Kind: api.TyLong, Name: "A"}: "long", {Kind: api.TyNull, Name: "A"}: "null",
		{Kind: 5}: "?", {Kind: 5, Name: "A"}: "?", {Kind: -1}: "?", {Kind: 1 << 32, Name: "x"}: "?", {Kind: 1<<32 + 4, Name: "x"}: "?", {Kind: -4, Name: "x"}: "?",
	} {
		if got := vtype.Text(x); got != s {
			t.Error(x, got, s)
		}
	}
}
