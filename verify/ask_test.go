package verify_test

import (
	"slices"
	"strings"
	"testing"

	"tabard/api"
	"tabard/sample"
	"tabard/verify"
	"tabard/vtype"
)

// table is a table out of a text: entries with a ; between, locals and stack with a / between, a - for what is not known. A + behind a - has a shape all the same.
func table(s string) []api.Known {
	var l []api.Known
	for x := range strings.SplitSeq(s, ";") {
		x = strings.TrimSpace(x)
		x, known := strings.CutPrefix(x, "-")
		locals, stack, _ := strings.Cut(" "+x+" ", " / ")
		l = append(l, api.Known{Is: !known, Shape: sample.Shape(locals, stack)})
	}
	return l
}

func cloned(l []api.Known) []api.Known {
	l = slices.Clone(l)
	for i := range l {
		l[i].Shape = vtype.Clone(l[i].Shape)
	}
	return l
}

// unchanged fails if a table is not what it was.
func unchanged(t *testing.T, l, kept []api.Known) {
	t.Helper()
	for i := range l {
		if l[i].Is != kept[i].Is || !vtype.Same(l[i].Shape, kept[i].Shape) {
			t.Error("written to", i)
		}
	}
}

func TestBelow(t *testing.T) {
	p := sample.Link(sample.Family()...)
	for _, x := range []struct {
		a, b        string
		below, back bool
	}{
		{"/", "/", true, true}, {"int /", "int /", true, true}, {"int / long", "int / long", true, true}, {"A / B", "C / C", true, false}, {"A / B", "C / A", false, false}, {"null / null", "A / [I", true, false}, {"int /", "top /", true, false}, {"/ int", "/ top", true, false}, {"int /", "long /", false, false},
		// As many operations, locals, and types on the stack.
		{"/", "/ ; /", false, false}, {"/", "/ ; -", false, false}, {"-", "- ; -", false, false}, {"int int /", "int /", false, false}, {"int /", "/ int", false, false}, {"/ int int", "/ int", false, false}, {"/", "top /", false, false},
		// What is known.
		{"-", "-", true, true}, {"-", "/", true, false}, {"- int / X", "/", true, false}, {"- A /", "- B / int int", true, true}, {"/ ; - ; /", "/ ; / ; /", true, false}, {"/ ; - ; /", "/ ; / ; -", false, false}, {"int / ; - ; A /", "top / ; X / X ; C /", true, false}, {"int / ; - ; C /", "top / ; / ; A /", false, false}, {"int / ; A /", "int / ; B /", false, false}, {"A / ; int /", "B / ; int /", false, false},
		// What is none fits nothing, itself neither.
		{"X /", "X /", false, false}, {"/ [LX;", "/ [LX;", false, false}, {"X /", "top /", false, false}, {"null /", "X /", false, false}, {"- X /", "- X /", true, true},
	} {
		a, b := table(x.a), table(x.b)
		ka, kb := cloned(a), cloned(b)
		if verify.Below(p, a, b) != x.below || verify.Below(p, b, a) != x.back {
			t.Error(x)
		}
		unchanged(t, a, ka)
		unchanged(t, b, kb)
	}
	// The classes are the program's; those that are built in are there always.
	for _, q := range []api.Program{sample.Link(), {}, {Statics: sample.Types("int")}} {
		if verify.Below(q, table("A /"), table("C /")) || !verify.Below(q, table(sample.Throwable+" / [I"), table(sample.Object+" / top")) || !verify.Below(q, nil, []api.Known{}) || verify.Below(q, nil, table("-")) {
			t.Error("Below of", len(q.Classes), "classes")
		}
	}
}

func TestSame(t *testing.T) {
	for _, x := range []struct {
		a, b string
		want bool
	}{
		{"/", "/", true}, {"-", "-", true}, {"-", "/", false}, {"/", "/ ; -", false}, {"int / A", "int / A", true}, {"int / A", "int / B", false}, {"int / A", "long / A", false}, {"int /", "int top /", false}, {"int /", "/ int", false}, {"/ int", "/ int int", false}, {"/ ; int / ; -", "/ ; int / ; -", true}, {"/ ; int / ; -", "/ ; - ; -", false}, {"int / ; long /", "int / ; int /", false}, {"long / ; int /", "int / ; int /", false},
		// Shapes of what is not known count for nothing; those that no verifier makes are as good as others.
		{"- int / A", "- X /", true}, {"- int / A ; /", "- ; /", true}, {"X / [LX;", "X / [LX;", true}, {"X /", "[LX; /", false}, {"null /", "A /", false}, {"top /", "int /", false},
	} {
		if verify.Same(table(x.a), table(x.b)) != x.want || verify.Same(table(x.b), table(x.a)) != x.want {
			t.Error(x)
		}
	}
	empty := []api.Known{{Is: true, Shape: api.Shape{Locals: []api.Type{}, Stack: []api.Type{}}}}
	if !verify.Same(nil, []api.Known{}) || !verify.Same(nil, nil) || verify.Same(nil, empty) || !verify.Same(empty, []api.Known{{Is: true}}) {
		t.Error("empty lists")
	}
	odd := []api.Known{{Is: true, Shape: api.Shape{Locals: []api.Type{{Kind: 5}}}}}
	if !verify.Same(odd, cloned(odd)) || verify.Same(odd, []api.Known{{Is: true, Shape: api.Shape{Locals: []api.Type{{Kind: 5, Name: "x"}}}}}) {
		t.Error("odd kinds")
	}
}

func TestDeepest(t *testing.T) {
	for s, want := range map[string]int{
		"/": 0, "-": 0, "- / int int": 0, "int long /": 0, "/ int": 1, "/ long": 2, "/ int long top A null": 6, "/ int ; / long ; / A": 2, "/ int int int ; / long": 3, "/ ; - / long ; / int": 1, "long long / int ; -": 1, "/ X [LX;": 2,
	} {
		l := table(s)
		if got := verify.Deepest(l); got != want {
			t.Error(s, got)
		}
	}
	if verify.Deepest(nil) != 0 || verify.Deepest([]api.Known{}) != 0 || verify.Deepest([]api.Known{{Is: true, Shape: api.Shape{Stack: []api.Type{{Kind: 9}, {Kind: -1}}}}}) != 2 {
		t.Error("Deepest")
	}
}

func TestReached(t *testing.T) {
	for s, want := range map[string][]int{
		"/": {0}, "-": nil, "- ; -": nil, "/ ; /": {0, 1}, "- ; / ; - int / ; X / ; -": {1, 3}, "/ ; - ; - ; /": {0, 3},
	} {
		l := table(s)
		places := verify.Reached(l)
		// The owner writes to the table before it is ranged over: what was there when it was asked for is told.
		for i := range l {
			l[i] = api.Known{Is: !l[i].Is}
		}
		for range 2 {
			if got := slices.Collect(places); !slices.Equal(got, want) {
				t.Error(s, got)
			}
		}
		// It may be stopped at any point, and be done within itself.
		for stop := range want {
			var got []int
			for i := range places {
				got = append(got, i)
				if inner := slices.Collect(places); !slices.Equal(inner, want) {
					t.Error(s, inner)
				}
				if len(got) == stop+1 {
					break
				}
			}
			if !slices.Equal(got, want[:stop+1]) {
				t.Error(s, got)
			}
		}
	}
	for range verify.Reached(nil) {
		t.Error("nothing")
	}
	for range verify.Reached([]api.Known{}) {
		t.Error("nothing")
	}
}
