package vtype_test

import (
	"math"
	"regexp"
	"slices"
	"strings"
	"testing"

	"tabard/api"
	"tabard/hier"
)

// What the document says, kept the plainest way: a hierarchy is lines; the types that one fits are written out as a list, and what two have in common is looked for in both lists.

const object, throwable = "java/lang/Object", "java/lang/Throwable"

func top() api.Type         { return api.Type{Kind: api.TyTop} }
func num() api.Type         { return api.Type{Kind: api.TyInt} }
func long() api.Type        { return api.Type{Kind: api.TyLong} }
func null() api.Type        { return api.Type{Kind: api.TyNull} }
func ref(s string) api.Type { return api.Type{Kind: api.TyRef, Name: s} }
func dims(n int) string     { return strings.Repeat("[", n) }
func builtIn() []string {
	return []string{object, throwable, exception("Arithmetic"), exception("ClassCast")}
}
func exception(s string) string { return "java/lang/" + s + "Exception" }

// meant is classes and their supers, by names.
type meant map[string]string

// made is a hierarchy of lines, a text for each, A:B for A under B, and the plain reading of it.
func made(t *testing.T, l ...string) (*hier.Hier, meant) {
	t.Helper()
	m := meant{object: "", throwable: object}
	for _, s := range []string{"Arithmetic", "NullPointer", "ArrayIndexOutOfBounds", "NegativeArraySize", "ClassCast", "ArrayStore"} {
		m[exception(s)] = throwable
	}
	var lines []api.Line
	for _, s := range l {
		name, super, is := strings.Cut(s, ":")
		if !is {
			super = object
		}
		m[name] = super
		lines = append(lines, api.Line{Name: name, Super: super})
	}
	h, e := hier.New(lines...)
	if e != api.OK {
		t.Fatal(l, e)
	}
	return h, m
}

var arrayName = regexp.MustCompile(`(?s)^\[{1,16}(?:I|J|L([^\[].*);)$`)

// isArray tells whether a name is an array's whose class there is.
func (m meant) isArray(name string) bool {
	l := arrayName.FindStringSubmatch(name)
	return l != nil && (l[1] == "" || m.has(l[1]))
}

func (m meant) has(name string) bool {
	_, is := m[name]
	return is
}

func (m meant) valid(t api.Type) bool {
	if t.Kind == api.TyRef {
		return m.has(t.Name) || m.isArray(t.Name)
	}
	return slices.Contains([]api.Type{top(), num(), long(), null()}, t)
}

// above is the names of all that a valid reference fits.
func (m meant) above(name string) []string {
	var l []string
	if m.has(name) {
		for ; name != ""; name = m[name] {
			l = append(l, name)
		}
		return l
	}
	switch rest := name[1:]; {
	case rest == "I" || rest == "J":
		l = append(l, name)
	case rest[0] == 'L':
		rest = rest[1 : len(rest)-1]
		fallthrough
	default:
		for _, s := range m.above(rest) {
			l = append(l, asArray(s))
		}
	}
	return append(l, object)
}

func asArray(name string) string {
	if name[0] == '[' {
		return "[" + name
	}
	return "[L" + name + ";"
}

func (m meant) fits(a, b api.Type) bool {
	if !m.valid(a) || !m.valid(b) {
		return false
	}
	switch {
	case a == b, b == top():
		return true
	case b.Kind != api.TyRef:
		return false
	case a.Kind == api.TyRef:
		return slices.Contains(m.above(a.Name), b.Name)
	}
	return a == null()
}

// join is the least of all types that both fit; false, if there is not just one.
func (m meant) join(a, b api.Type) (api.Type, bool) {
	switch {
	case !m.valid(a) || !m.valid(b):
		return top(), true
	case a == b:
		return a, true
	case a.Kind == api.TyRef && b == null():
		return a, true
	case a == null() && b.Kind == api.TyRef:
		return b, true
	case a.Kind != api.TyRef || b.Kind != api.TyRef:
		return top(), true
	}
	var both, least []string
	for _, s := range m.above(a.Name) {
		if slices.Contains(m.above(b.Name), s) {
			both = append(both, s)
		}
	}
	for _, s := range both {
		higher := func(x string) bool { return !slices.Contains(m.above(s), x) }
		if !slices.ContainsFunc(both, higher) {
			least = append(least, s)
		}
	}
	if len(least) != 1 {
		return top(), false
	}
	return ref(least[0]), true
}

// families are hierarchies whose classes all have a class's name, some of them such as might be taken for something else.
func families() [][]string {
	return [][]string{
		nil,
		{"C", "A:C", "B:C", "D:A", "E:" + throwable},
		{"B:A", "A:" + exception("ClassCast"), "F:A", "G:" + exception("Arithmetic"), "H"},
		{"I", "J:I", "L:J", ";:I", "L;:;", "LA;:L", "A"},
		{"A[", "A[[:A[", "A]:A[[", "B[" + dims(20) + ":A["},
		{"\x00", "\xff:\x00", "\n:\xff", " :\n", "a/b", "a.b:a/b", "é:a/b"},
		{"A;B", "A", "A;[LB;:A", "II", "V", "Z:A", "JJ:II"},
	}
}

// names are texts of all sorts: those of classes, arrays of them as long as may be and longer, and such as name nothing.
func names(family []string) []string {
	l := []string{"", "[", "[[", "L", "LA;", "I", "J", "[L", "[L;", "[;", "[LA", "[A;", "[A", "[V", "[LX;", "[i", "[l", "[II", "[IJ", "[I;", "[LI", "[[L;", "[L[I;", "[L[LA;;", "[LA;;", "[ I", " [I", "]I", "X", "java/lang/object", object + " ", dims(15), dims(16), dims(17), dims(16) + "L", dims(16) + "L;"}
	bases := []string{"I", "J", "LX;"}
	for _, s := range append(builtIn(), family...) {
		name, _, _ := strings.Cut(s, ":")
		l = append(l, name)
		bases = append(bases, "L"+name+";")
	}
	for _, s := range bases {
		for _, n := range []int{1, 2, 15, 16, 17} {
			l = append(l, dims(n)+s)
		}
	}
	return l
}

// types are references of all these names, all other types, and such as are none.
func types(family []string) []api.Type {
	l := []api.Type{top(), num(), long(), null()}
	for _, s := range names(family) {
		l = append(l, ref(s))
	}
	for _, s := range []string{"", "I", "x", "A", "[I", object} {
		for _, kind := range []int{math.MinInt, -1 << 32, -4, -1, 5, 6, 260, 1 << 32, 1<<32 + 4, math.MaxInt} {
			l = append(l, api.Type{Kind: kind, Name: s})
		}
		for kind := range api.TyRef {
			if s != "" {
				l = append(l, api.Type{Kind: kind, Name: s})
			}
		}
	}
	return l
}

// numbers tells numbers that look as if they were in no order: the same ones each time.
type numbers uint64

func (r *numbers) below(n int) int {
	*r = *r*6364136223846793005 + 1442695040888963407
	return int(uint64(*r) >> 33 % uint64(n))
}
