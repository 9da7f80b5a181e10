package vtype_test

import (
	"strconv"
	"strings"
	"testing"

	"tabard/api"
	"tabard/hier"
	"tabard/vtype"
)

// order is which of a list's types fits which, as Fits tells it.
func order(h *hier.Hier, l []api.Type) [][]bool {
	rows := make([][]bool, len(l))
	for i, a := range l {
		rows[i] = make([]bool, len(l))
		for k, b := range l {
			rows[i][k] = vtype.Fits(h, a, b)
		}
	}
	return rows
}

// holdOrder is P11.6, of a list of types.
func holdOrder(t *testing.T, h *hier.Hier, l []api.Type) {
	t.Helper()
	fits := order(h, l)
	for i, a := range l {
		if fits[i][i] != vtype.Valid(h, a) {
			t.Error("fits itself", a)
		}
		for k, b := range l {
			if fits[i][k] && !(vtype.Valid(h, a) && vtype.Valid(h, b)) {
				t.Error("not valid", a, b)
			}
			if a != b && fits[i][k] && fits[k][i] {
				t.Error("two that fit each other", a, b)
			}
			for n := range l {
				if fits[i][k] && fits[k][n] && !fits[i][n] {
					t.Error("a third", a, b, l[n])
				}
			}
		}
	}
}

// holdJoin is P11.7, of a list of valid types.
func holdJoin(t *testing.T, h *hier.Hier, l []api.Type) {
	t.Helper()
	fits := order(h, l)
	for i, a := range l {
		for k, b := range l {
			j := vtype.Join(h, a, b)
			if !vtype.Fits(h, a, j) || !vtype.Fits(h, b, j) {
				t.Error("both fit", a, b, j)
			}
			if other := vtype.Join(h, b, a); j != other {
				t.Error("the order", a, b, j, other)
			}
			for n, c := range l {
				if fits[i][n] && fits[k][n] && !vtype.Fits(h, j, c) {
					t.Error("the least", a, b, j, c)
				}
			}
		}
	}
}

// valid is those of a list that are valid.
func valid(h *hier.Hier, l []api.Type) []api.Type {
	var out []api.Type
	for _, x := range l {
		if vtype.Valid(h, x) {
			out = append(out, x)
		}
	}
	return out
}

func TestFollows(t *testing.T) {
	for _, family := range families() {
		h, _ := made(t, family...)
		l := types(family)
		holdOrder(t, h, l)
		holdJoin(t, h, valid(h, l))
	}
}

// TestRandom has classes under any others, and arrays of any of them.
func TestRandom(t *testing.T) {
	r := numbers(1)
	for range 40 {
		var family []string
		for i := range 1 + r.below(20) {
			super := object
			if k := r.below(i + 2); k < i {
				super, _, _ = strings.Cut(family[k], ":")
			} else if k == i {
				super = builtIn()[r.below(4)]
			}
			family = append(family, string(rune('A'+i))+":"+super)
		}
		h, m := made(t, family...)
		l := []api.Type{null(), top(), num()}
		for range 60 {
			base := "J"
			if k := r.below(len(family) + 2); k < len(family) {
				base = "L" + family[k][:1] + ";"
			} else if k == len(family) {
				base = "L" + object + ";"
			}
			if n := r.below(5); n > 0 {
				l = append(l, ref(dims(n)+base))
			} else if base != "J" {
				l = append(l, ref(base[1:len(base)-1]))
			}
		}
		holdOrder(t, h, l)
		holdJoin(t, h, l)
		for _, a := range l {
			for _, b := range l {
				if want, one := m.join(a, b); vtype.Join(h, a, b) != want || !one || vtype.Fits(h, a, b) != m.fits(a, b) {
					t.Error(family, a, b, vtype.Join(h, a, b), want, one)
				}
			}
		}
	}
}

// TestDeep has the longest line of classes, and arrays of them of all dimensions.
func TestDeep(t *testing.T) {
	family := []string{"C0"}
	for i := 1; i < api.MaxClasses; i++ {
		family = append(family, "C"+strconv.Itoa(i)+":C"+strconv.Itoa(i-1))
	}
	h, _ := made(t, family...)
	for n := 1; n <= api.MaxDims; n++ {
		a, b := ref(dims(n)+"LC63;"), ref(dims(n)+"LC0;")
		if !vtype.Fits(h, a, b) || vtype.Fits(h, b, a) || vtype.Join(h, a, b) != b || vtype.Join(h, b, a) != b {
			t.Error(n)
		}
	}
}

// odd are hierarchies with classes that have no class's name: as a hierarchy asks nothing of names, they are classes all the same.
func odd() [][]string {
	return [][]string{
		{":" + object, "A:", "B:"}, {"[I", "A:[I", "B:[I"}, {"[LA;:Z", "A", "B:A", "Z"}, {"[LA;:[LB;", "[LB;:Z", "B:A", "A", "Z"}, {"[LB;:[LA;", "[LA;:Z", "B:A", "A", "Z"}, {"[LB;:Z", "B:A", "A", "Z"},
		{"[[I:[I", "[I"}, {"[I:[[I", "[[I"}, {"[X", "[:[X", "A:[", "B:[X"}, {"[LX;", "A:[LX;", "[[LX;:A"}, {dims(16) + "I:A", dims(17) + "I:A", "A"}, {"[L;", "[[:[L;", "[Ljava/lang/Object;:[["},
	}
}

// TestOddOrder is P11.6 of classes that have no class's name; and no call of them panics, whatever it answers.
func TestOddOrder(t *testing.T) {
	for _, family := range odd() {
		h, m := made(t, family...)
		l := types(append(family, "A", "B"))
		for _, x := range l {
			if vtype.Valid(h, x) != m.valid(x) {
				t.Error("Valid", family, x)
			}
		}
		l = append(l, ref("[X"), ref("[[X"), ref("[LA;"), ref("[LB;"), ref("[LZ;"))
		holdOrder(t, h, l)
		for _, a := range l {
			for _, b := range l {
				if vtype.Join(h, a, b) != vtype.Join(h, b, a) {
					t.Error("Join", family, a, b)
				}
			}
		}
	}
}

// TestOdd has what is said of such classes word by word: of classes hier's answer, whatever their names.
func TestOdd(t *testing.T) {
	for _, x := range []struct {
		family     string
		a, b, join string
		fits       bool
	}{
		{"[I;A:[I;B:[I", "A", "[I", "[I", true}, {"[I;A:[I;B:[I", "A", "B", "[I", false}, {"[I;A:[I;B:[I", "[I", object, object, true}, {"[I;A:[I;B:[I", "[I", "[J", object, false}, {"[I;A:[I;B:[I", "[LA@", "[[I", "[[I", true},
		{"Z;[X:Z", "[X", "Z", "Z", true}, {"Z;[X:Z;A:[X", "A", "[X", "[X", true}, {"Z;[X:Z", "[X", "[I", object, false},
		{"Z;A;B:A;[LA@:Z", "[LA@", "Z", "Z", true}, {"Z;A;B:A;[LA@:Z", "[LB@", "Z", object, false}, {"Z;A;B:A;[LA@:Z", "[LB@", "[LA@", object, false}, {"Z;A;B:A;[LA@:Z", "[LB@", object, object, true},
		{"Z;A;B:A;[LA@:Z;[LB@:Z", "[[LB@", "[[LA@", "[LZ@", false},
		{":" + object + ";A:;B:", "A", "", "", true}, {":" + object + ";A:;B:", "A", "B", "", false},
	} {
		// A ; parts classes here, so that @ stands for it.
		at := func(s string) string { return strings.ReplaceAll(s, "@", ";") }
		l := strings.Split(x.family, ";")
		for i, s := range l {
			l[i] = at(s)
		}
		h, _ := made(t, l...)
		a, b := ref(at(x.a)), ref(at(x.b))
		if vtype.Fits(h, a, b) != x.fits || vtype.Fits(h, b, a) || vtype.Join(h, a, b) != ref(at(x.join)) || vtype.Join(h, b, a) != ref(at(x.join)) {
			t.Error(x, vtype.Fits(h, a, b), vtype.Join(h, a, b))
		}
	}
	// No array is made of the class without a name.
	h, _ := made(t, ":"+object, "A:", "B:")
	if x := vtype.Join(h, ref("[LA;"), ref("[LB;")); x != top() {
		t.Error(x)
	}
}
