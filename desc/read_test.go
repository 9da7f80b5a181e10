package desc_test

import (
	"iter"
	"regexp"
	"slices"
	"strings"
	"testing"

	"tabard/api"
	"tabard/desc"
)

// texts are all texts of at most so many of some letters.
func texts(letters string, most int) iter.Seq[string] {
	return func(yield func(string) bool) {
		for n, l := 0, []string{""}; n <= most; n++ {
			var longer []string
			for _, s := range l {
				if !yield(s) {
					return
				}
				for i := range len(letters) {
					longer = append(longer, s+letters[i:i+1])
				}
			}
			l = longer
		}
	}
}

func ref(name string) api.Type { return api.Type{Kind: api.TyRef, Name: name} }

var (
	top  = api.Type{Kind: api.TyTop}
	num  = api.Type{Kind: api.TyInt}
	long = api.Type{Kind: api.TyLong}
)

const fieldOf = `\[*(?:[IJ]|L` + partOf + `(?:/` + partOf + `)*;)`

var (
	fieldRule  = regexp.MustCompile(`^` + fieldOf + `$`)
	methodRule = regexp.MustCompile(`^\(((?:` + fieldOf + `)*)\)(V|` + fieldOf + `)$`)
	oneField   = regexp.MustCompile(fieldOf)
)

// meant is the type of a text that is a descriptor of a field.
func meant(s string) api.Type {
	switch s[0] {
	case 'I':
		return num
	case 'J':
		return long
	case 'L':
		return ref(s[1 : len(s)-1])
	}
	return ref(s)
}

func checkField(t *testing.T, s string) {
	t.Helper()
	want, fault := api.Type{}, api.ErrDesc
	if len(s) > api.MaxText {
		fault = api.ErrLong
	} else if fieldRule.MatchString(s) {
		want, fault = meant(s), api.OK
	}
	if x, e := desc.Field(s); e != fault || x != want {
		t.Errorf("Field(%q) = %v, %d", s, x, e)
	}
}

func checkMethod(t *testing.T, s string) {
	t.Helper()
	var args []api.Type
	ret, fault := api.Type{}, api.ErrDesc
	if len(s) > api.MaxText {
		fault = api.ErrLong
	} else if m := methodRule.FindStringSubmatch(s); m != nil {
		fault = api.OK
		for _, one := range oneField.FindAllString(m[1], -1) {
			args = append(args, meant(one))
		}
		if m[2] != "V" {
			ret = meant(m[2])
		}
	}
	if l, r, e := desc.Method(s); e != fault || r != ret || !slices.Equal(l, args) {
		t.Errorf("Method(%q) = %v, %v, %d", s, l, r, e)
	}
}

func TestField(t *testing.T) {
	for _, x := range []struct {
		s string
		t api.Type
	}{
		{"I", num}, {"J", long}, {"LA;", ref("A")}, {"La/B;", ref("a/B")}, {"LI;", ref("I")}, {"LL;", ref("L")}, {"LV;", ref("V")}, {"LLA;", ref("LA")},
		{"[I", ref("[I")}, {"[J", ref("[J")}, {"[[J", ref("[[J")}, {"[LA;", ref("[LA;")}, {"[[[La/B$1;", ref("[[[La/B$1;")},
		// A name may have brackets of a method's descriptor.
		{"L();", ref("()")}, {"La(b/c)d;", ref("a(b/c)d")}, {"[L)V;", ref("[L)V;")},
	} {
		if got, e := desc.Field(x.s); e != api.OK || got != x.t {
			t.Errorf("Field(%q) = %v, %d", x.s, got, e)
		}
	}
	for _, s := range []string{
		"", "V", "[V", "[", "[[", "L", "L;", "[L;", "LA", "A;", "A", ";", "LA;;", "LA;I", "II", "IJ", "I;", "JI", "[II", "[I]", "I[", "LA;[", "i", "j", "lA;",
		"L/;", "L/A;", "LA/;", "La//b;", "La.b;", "L[A;", "L<init>;", "LA ;", "L\x00;", "L\u00e4;", " I", "I ", "I\n", "\x00", "\xff", "()V", "(I)I", "B", "C", "D", "F", "S", "Z", "T", "null", "top",
	} {
		if got, e := desc.Field(s); e != api.ErrDesc || got != (api.Type{}) {
			t.Errorf("Field(%q) = %v, %d", s, got, e)
		}
	}
}

func TestMethod(t *testing.T) {
	for _, x := range []struct {
		s    string
		args []api.Type
		ret  api.Type
	}{
		{"()V", nil, top}, {"()I", nil, num}, {"()J", nil, long}, {"()La/B;", nil, ref("a/B")}, {"()[I", nil, ref("[I")}, {"()[[LA;", nil, ref("[[LA;")},
		{"(I)V", []api.Type{num}, top}, {"(IJI)J", []api.Type{num, long, num}, long},
		{"(I[JLa/B;)V", []api.Type{num, ref("[J"), ref("a/B")}, top},
		{"(LA;LB;[LC;I)LD;", []api.Type{ref("A"), ref("B"), ref("[LC;"), num}, ref("D")},
		{"([[I[[J)I", []api.Type{ref("[[I"), ref("[[J")}, num},
		// What closes the arguments may stand in a name.
		{"(L)V;)V", []api.Type{ref(")V")}, top}, {"(L(;L);)L();", []api.Type{ref("("), ref(")")}, ref("()")},
	} {
		if l, r, e := desc.Method(x.s); e != api.OK || r != x.ret || !slices.Equal(l, x.args) {
			t.Errorf("Method(%q) = %v, %v, %d", x.s, l, r, e)
		}
	}
	for _, s := range []string{
		"", "I", "V", "(", ")", "()", "(I", "(I)", "I)V", ")V", "()VV", "()IV", "()VI", "()II", "(V)V", "(IV)V", "([V)V", "()[V", "()[", "([)V", "([)I", "(L;)V", "()L;", "(LA)V", "(A;)V", "(La;;)V",
		"((I)V", "(())V", "(I))V", "(I)V ", " (I)V", "(I )V", "(I,J)V", "(I;J)V", "()v", "()B", "(Z)V", "()V\n", "()V\x00", "[()V", "()La//b;", "(La.b;)V", "(I)V(I)V", "<init>()V", "()LA;V", "()LA;I",
	} {
		if l, r, e := desc.Method(s); e != api.ErrDesc || r != (api.Type{}) || len(l) != 0 {
			t.Errorf("Method(%q) = %v, %v, %d", s, l, r, e)
		}
	}
}

func TestClass(t *testing.T) {
	for _, x := range []struct {
		s string
		e api.Errno
	}{
		{"A", api.OK}, {"a/B", api.OK}, {"I", api.OK}, {"J", api.OK}, {"V", api.OK}, {"()V", api.OK}, {"[I", api.OK}, {"[[J", api.OK}, {"[LA;", api.OK}, {"[[La/B;", api.OK},
		{"", api.ErrIdent}, {"LA;", api.ErrIdent}, {"a//b", api.ErrIdent}, {"a[", api.ErrIdent}, {"<init>", api.ErrIdent}, {" [I", api.ErrIdent}, {"I[", api.ErrIdent}, {"\u00e4", api.ErrIdent}, {"/", api.ErrIdent},
		{"[", api.ErrDesc}, {"[A", api.ErrDesc}, {"[V", api.ErrDesc}, {"[[", api.ErrDesc}, {"[L;", api.ErrDesc}, {"[II", api.ErrDesc}, {"[LA;;", api.ErrDesc}, {"[La//b;", api.ErrDesc}, {"[()V", api.ErrDesc},
		{strings.Repeat("a", 255), api.OK}, {strings.Repeat("a", 256), api.ErrLong}, {strings.Repeat(".", 255), api.ErrIdent}, {strings.Repeat(".", 256), api.ErrLong},
		{strings.Repeat("[", 254) + "I", api.OK}, {strings.Repeat("[", 255) + "I", api.ErrLong}, {strings.Repeat("[", 255), api.ErrDesc}, {strings.Repeat("[", 256), api.ErrLong},
	} {
		want := api.Type{}
		if x.e == api.OK {
			want = ref(x.s)
		}
		if got, e := desc.Class(x.s); e != x.e || got != want {
			t.Errorf("Class(%q) = %v, %d", x.s, got, e)
		}
	}
}

func TestLongDescriptors(t *testing.T) {
	a := func(n int) string { return strings.Repeat("a", n) }
	for _, x := range []struct {
		s string
		e api.Errno
	}{
		{"L" + a(253) + ";", api.OK}, {"L" + a(254) + ";", api.ErrLong}, {"L" + a(254), api.ErrDesc}, {"L" + a(252) + ".;", api.ErrDesc}, {"L" + a(253) + ".;", api.ErrLong},
		{strings.Repeat("[", 254) + "I", api.OK}, {strings.Repeat("[", 255) + "I", api.ErrLong}, {strings.Repeat("[", 255), api.ErrDesc}, {strings.Repeat("[", 256), api.ErrLong},
		{"[[L" + a(251) + ";", api.OK}, {"[[L" + a(252) + ";", api.ErrLong}, {strings.Repeat("I", 255), api.ErrDesc}, {strings.Repeat("I", 256), api.ErrLong}, {strings.Repeat("[", 1<<24), api.ErrLong},
	} {
		if _, e := desc.Field(x.s); e != x.e {
			t.Error(len(x.s), x.s[:3], e)
		}
		checkField(t, x.s)
	}
	for _, x := range []struct {
		s string
		e api.Errno
		n int
	}{
		{"(" + strings.Repeat("I", 252) + ")V", api.OK, 252}, {"(" + strings.Repeat("I", 253) + ")V", api.ErrLong, 0}, {"(" + strings.Repeat("I", 254), api.ErrDesc, 0}, {"(" + strings.Repeat("I", 255), api.ErrLong, 0},
		{"(L" + a(250) + ";)J", api.OK, 1}, {"(L" + a(251) + ";)J", api.ErrLong, 0}, {"()L" + a(251) + ";", api.OK, 0}, {"()L" + a(252) + ";", api.ErrLong, 0},
		{"(" + strings.Repeat("[", 251) + "I)V", api.OK, 1}, {"(" + strings.Repeat("[", 252) + ")V", api.ErrDesc, 0}, {strings.Repeat("(", 1<<24), api.ErrLong, 0},
	} {
		if l, _, e := desc.Method(x.s); e != x.e || len(l) != x.n {
			t.Error(len(x.s), x.s[:3], len(l), e)
		}
		checkMethod(t, x.s)
	}
}

func TestReadingOfAllShortTexts(t *testing.T) {
	for s := range texts("IJVL[;a/", 6) {
		checkField(t, s)
	}
	for s := range texts("()IVL[;", 6) {
		checkMethod(t, s)
		checkMethod(t, "("+s)
		checkMethod(t, "("+s+")V")
	}
}

func TestReadingOfEachByte(t *testing.T) {
	for c := range 256 {
		b := string([]byte{byte(c)})
		for _, s := range []string{b, "[" + b, b + "I", b + "A;", "I" + b, "LA" + b, "L" + b + ";", "LA" + b + "B;", "LA;" + b} {
			checkField(t, s)
		}
		for _, s := range []string{b, b + ")V", "(" + b, "(" + b + ")V", "(I" + b + "V", "()" + b, "([" + b + ")V", "()V" + b, "(LA" + b + "B;)V"} {
			checkMethod(t, s)
		}
	}
}

func TestAnswersAreNobodysElse(t *testing.T) {
	l, _, _ := desc.Method("(IJLA;)V")
	want := slices.Clone(l)
	l[0], l[1], l[2] = ref("x"), ref("y"), ref("z")
	_ = append(l[:1], ref("q"))
	if again, _, e := desc.Method("(IJLA;)V"); e != api.OK || !slices.Equal(again, want) {
		t.Error(again, e)
	}
}
