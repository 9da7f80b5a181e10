package classfile_test

import (
	"math"
	"slices"
	"strings"
	"testing"

	"tabard/api"
	"tabard/classfile"
	"tabard/cpool"
)

func TestNew(t *testing.T) {
	name := strings.Repeat("n", 255)
	for _, x := range []struct {
		name, super string
		want        api.Class
	}{
		{"A", "java/lang/Object", api.Class{Pool: pool(utf("Code"), utf("A"), class(2), utf("java/lang/Object"), class(4)), This: 3, Super: 5}}, // the document's example
		{"a/b/C", "D", api.Class{Pool: pool(utf("Code"), utf("a/b/C"), class(2), utf("D"), class(4)), This: 3, Super: 5}},
		{name, name[1:], api.Class{Pool: pool(utf("Code"), utf(name), class(2), utf(name[1:]), class(4)), This: 3, Super: 5}},
		// What is there already is not added again.
		{"A", "A", api.Class{Pool: pool(utf("Code"), utf("A"), class(2)), This: 3, Super: 3}}, {"Code", "A", api.Class{Pool: pool(utf("Code"), class(1), utf("A"), class(3)), This: 2, Super: 4}}, {"A", "Code", api.Class{Pool: pool(utf("Code"), utf("A"), class(2), class(1)), This: 3, Super: 4}}, {"Code", "Code", api.Class{Pool: pool(utf("Code"), class(1)), This: 2, Super: 2}},
	} {
		x.want.Major, x.want.Access = 52, 33
		c, e := classfile.New(x.name, x.super)
		if e != api.OK || !alike(c, x.want) || meantCheck(c) != api.OK {
			t.Error(x.name, x.super, c, e)
		}
		if e := classfile.Check(c); e != api.OK {
			t.Error(x.name, x.super, e)
		}
		this, e := classfile.This(c)
		if super, f := classfile.Super(c); this != x.name || super != x.super || e != api.OK || f != api.OK {
			t.Error(this, super, e, f)
		}
		if b, e := classfile.Encode(c); e != api.OK || !slices.Equal(b, meantBytes(x.want)) {
			t.Error(b, e)
		}
	}
}

func TestNewRefuses(t *testing.T) {
	far := strings.Repeat("n", 256)
	for _, x := range []struct {
		name, super string
		e           api.Errno
	}{
		{"", "A", api.ErrIdent}, {"A", "", api.ErrIdent}, {"a.b", "A", api.ErrIdent}, {"A", "a.b", api.ErrIdent}, {"[I", "A", api.ErrIdent}, {"A", "[I", api.ErrIdent}, {"a//b", "A", api.ErrIdent}, {"/A", "A", api.ErrIdent}, {"A", "A/", api.ErrIdent}, {"LA;", "A", api.ErrIdent}, {"<init>", "A", api.ErrIdent}, {"A", "<init>", api.ErrIdent}, {"A", "\x00", api.ErrIdent}, {"\u00e4", "A", api.ErrIdent}, {"A", "\xff", api.ErrIdent},
		{far, "A", api.ErrLong}, {"A", far, api.ErrLong},
		// The name's error comes ahead of the super's.
		{far, "", api.ErrLong}, {"", far, api.ErrIdent}, {strings.Repeat(".", 256), ".", api.ErrLong}, {".", strings.Repeat(".", 256), api.ErrIdent},
	} {
		if c, e := classfile.New(x.name, x.super); e != x.e || !isZero(c) {
			t.Error(x.name, x.super, c, e)
		}
	}
}

func TestNewIsNobodysElse(t *testing.T) {
	first, _ := classfile.New("A", "B")
	want := copied(first)
	clear(first.Pool)
	if again, e := classfile.New("A", "B"); e != api.OK || !alike(again, want) {
		t.Error(again, e)
	}
}

// meantWith is what the document says of WithField, and of WithMethod.
func meantWith(c api.Class, name, desc string, m api.Member, field bool) (api.Class, api.Errno) {
	c, m = copied(c), copiedMember(m)
	var e api.Errno
	if c.Pool, m.Name, e = cpool.Add(c.Pool, utf(name)); e != api.OK {
		return api.Class{}, e
	}
	if c.Pool, m.Desc, e = cpool.Add(c.Pool, utf(desc)); e != api.OK {
		return api.Class{}, e
	}
	if field {
		c.Fields = append(c.Fields, m)
	} else {
		c.Methods = append(c.Methods, m)
	}
	if e := meantCheck(c); e != api.OK {
		return api.Class{}, e
	}
	return c, api.OK
}

func checkField(t *testing.T, c api.Class, access int, name, desc string) (api.Class, api.Errno) {
	t.Helper()
	kept := copied(c)
	want, fault := meantWith(c, name, desc, api.Member{Access: access}, true)
	d, e := classfile.WithField(c, access, name, desc)
	if e != fault || !alike(d, want) {
		t.Errorf("WithField %d %.20q %.20q: %d, not %d", access, name, desc, e, fault)
	}
	if !alike(c, kept) {
		t.Error("WithField has written to the class")
	}
	return d, e
}

func checkMethod(t *testing.T, c api.Class, name, desc string, m api.Member) (api.Class, api.Errno) {
	t.Helper()
	kept, keptMember := copied(c), copiedMember(m)
	want, fault := meantWith(c, name, desc, m, false)
	d, e := classfile.WithMethod(c, name, desc, m)
	if e != fault || !alike(d, want) {
		t.Errorf("WithMethod %.20q %.20q: %d, not %d", name, desc, e, fault)
	}
	if !alike(c, kept) || !alikeMembers([]api.Member{m}, []api.Member{keptMember}) {
		t.Error("WithMethod has written to the class, or to the method")
	}
	return d, e
}

func TestWithField(t *testing.T) {
	c, _ := classfile.New("A", "java/lang/Object")
	want := copied(c)
	for _, x := range []struct {
		access     int
		name, desc string
		add        []api.Const
		m          api.Member
	}{
		{1, "x", "J", []api.Const{utf("x"), utf("J")}, api.Member{Access: 1, Name: 6, Desc: 7}},
		{9, "y", "J", []api.Const{utf("y")}, api.Member{Access: 9, Name: 8, Desc: 7}},
		{0, "x", "I", []api.Const{utf("I")}, api.Member{Name: 6, Desc: 9}},
		{8, "I", "I", nil, api.Member{Access: 8, Name: 9, Desc: 9}},
		{0, "A", "[LA;", []api.Const{utf("[LA;")}, api.Member{Name: 2, Desc: 10}},
		{0, "Code", "LCode;", []api.Const{utf("LCode;")}, api.Member{Name: 1, Desc: 11}},
	} {
		want.Pool, want.Fields = append(want.Pool, x.add...), append(want.Fields, x.m)
		d, e := checkField(t, c, x.access, x.name, x.desc)
		if e != api.OK || !alike(d, want) {
			t.Fatal(x, d, e)
		}
		if n, e := classfile.Member(d, d.Fields[len(d.Fields)-1]); e != api.OK || n != (api.Named{Name: x.name, Desc: x.desc}) {
			t.Error(n, e)
		}
		c = d
	}
}

func TestWithMethod(t *testing.T) {
	c, _ := classfile.New("A", "java/lang/Object")
	want := copied(c)
	for _, x := range []struct {
		name, desc string
		add        []api.Const
		m          api.Member
	}{
		{"<init>", "()V", []api.Const{utf("<init>"), utf("()V")}, api.Member{Access: 1, Name: 6, Desc: 7, Locals: 1, Code: []byte{177}}},
		{"f", "()V", []api.Const{utf("f")}, api.Member{Access: 8, Name: 8, Desc: 7, Stack: 64, Code: []byte{177}}},
		{"f", "(I)I", []api.Const{utf("(I)I")}, api.Member{Access: 0, Name: 8, Desc: 9, Stack: 2, Locals: 64, Code: []byte{27, 4, 96, 172}, Handlers: []api.Handler{{From: 0, To: 4, At: 0, Type: 3}, {From: 3, To: 4, At: 3}}}},
		{"A", "()V", nil, api.Member{Access: 9, Name: 2, Desc: 7, Code: []byte{0}}},
	} {
		want.Pool, want.Methods = append(want.Pool, x.add...), append(want.Methods, x.m)
		// Name and Desc of what is handed in are not asked.
		for _, i := range []int{0, 1, -1, x.m.Name, math.MaxInt} {
			x.m.Name, x.m.Desc = i, i
			d, e := checkMethod(t, c, x.name, x.desc, x.m)
			if e != api.OK || !alike(d, want) {
				t.Fatal(x, d, e)
			}
			if n, e := classfile.Member(d, d.Methods[len(d.Methods)-1]); e != api.OK || n != (api.Named{Name: x.name, Desc: x.desc}) {
				t.Error(n, e)
			}
			if i == math.MaxInt {
				c = d
			}
		}
	}
}

func TestWithFieldRefuses(t *testing.T) {
	far := strings.Repeat("n", 256)
	for _, x := range []struct {
		access     int
		name, desc string
		e          api.Errno
	}{
		{2, "y", "I", api.ErrAccess}, {32, "y", "I", api.ErrAccess}, {-1, "y", "I", api.ErrAccess}, {math.MinInt, "y", "I", api.ErrAccess}, {2, "a.b", "I", api.ErrAccess},
		{0, "", "I", api.ErrIdent}, {0, "a.b", "I", api.ErrIdent}, {0, "<clinit>", "I", api.ErrIdent}, {0, "a/b", "I", api.ErrIdent}, {0, "a.b", "", api.ErrIdent}, {0, "y", "", api.ErrDesc}, {0, "y", "V", api.ErrDesc}, {0, "y", "II", api.ErrDesc}, {0, "y", "()V", api.ErrDesc},
		{0, "<init>", "I", api.ErrMember}, {0, "<init>", "V", api.ErrDesc}, {0, "x", "J", api.ErrTwice}, {8, "x", "J", api.ErrTwice}, {8, "x", "I", api.ErrTwice}, {0, "x", "LI;", api.OK},
		// What may not be in the pool is told ahead of all that.
		{2, "\x00", "I", api.ErrUtf}, {2, "y", "\x80", api.ErrUtf}, {0, far, "I", api.ErrUtf}, {0, "y", far, api.ErrUtf}, {0, "\u00e4", "I", api.ErrUtf}, {0, "y", "L\u00e4;", api.ErrUtf}, {2, "<init>", far, api.ErrUtf},
	} {
		if c, e := checkField(t, sample(), x.access, x.name, x.desc); e != x.e || e != api.OK && !isZero(c) {
			t.Error(x.access, x.name, x.desc, e)
		}
	}
}

func TestWithMethodRefuses(t *testing.T) {
	far := strings.Repeat("n", 256)
	good := method()
	with := func(f func(m *api.Member)) api.Member {
		m := method()
		f(&m)
		return m
	}
	for i, x := range []struct {
		name, desc string
		m          api.Member
		e          api.Errno
	}{
		{"g", "(I)I", good, api.OK}, {"f", "(I)I", good, api.ErrTwice}, {"f", "()V", good, api.OK}, {"<init>", "()V", constructor(), api.ErrTwice}, {"<init>", "(I)V", good, api.ErrMember}, {"<init>", "()I", constructor(), api.ErrMember}, {"x", "(I)I", good, api.OK},
		{"g", "(I)I", with(func(m *api.Member) { m.Access = 2 }), api.ErrAccess}, {"", "(I)I", good, api.ErrIdent}, {"a;b", "(I)I", good, api.ErrIdent}, {"g", "I", good, api.ErrDesc}, {"g", "", good, api.ErrDesc}, {"g", "(V)V", good, api.ErrDesc},
		{"g", "(I)I", with(func(m *api.Member) { m.Stack = 65 }), api.ErrLong}, {"g", "(J)I", good, api.ErrMember}, {"g", "(I)I", with(func(m *api.Member) { m.Access = 0 }), api.ErrMember}, {"g", "(I)I", with(func(m *api.Member) { m.Code = nil }), api.ErrShort}, {"g", "(I)I", with(func(m *api.Member) { m.Code = []byte{99} }), api.ErrOpcode}, {"g", "(I)I", with(func(m *api.Member) { m.Handlers[0].To = 2 }), api.ErrHandler}, {"g", "(I)I", with(func(m *api.Member) { m.Handlers[0].Type = 1 }), api.ErrPool}, {"g", "(I)I", with(func(m *api.Member) { m.Handlers = make([]api.Handler, 65) }), api.ErrLong}, {"g", "(I)I", api.Member{}, api.ErrMember},
		{"\x00", "I", api.Member{Access: -1}, api.ErrUtf}, {"g", "\x80", api.Member{Access: -1}, api.ErrUtf}, {far, "(I)I", good, api.ErrUtf}, {"g", far, good, api.ErrUtf},
	} {
		if c, e := checkMethod(t, sample(), x.name, x.desc, x.m); e != x.e || e != api.OK && !isZero(c) {
			t.Error(i, x.name, x.desc, e)
		}
	}
}

// TestWithOfClassesThatMayNotBe adds members to them: the pool's error is the first, then Check's.
func TestWithOfClassesThatMayNotBe(t *testing.T) {
	for _, x := range slices.Concat(faults()...) {
		c := sample()
		x.f(&c)
		checkField(t, c, 1, "new", "LNew;")
		checkField(t, c, 2, "\x00", "I")
		checkMethod(t, c, "new", "()LNew;", constructor())
		checkMethod(t, c, "f", "\x80", api.Member{})
		// A pool that may not be is told ahead of a version that is not read.
		c.Minor = 1
		checkField(t, c, 1, "new", "LNew;")
		checkMethod(t, c, "new", "()LNew;", constructor())
	}
	for _, c := range []api.Class{{}, {Major: 52}, {Major: 52, Pool: pool(utf("A"), class(1)), This: 2, Super: 2}} {
		checkField(t, c, 1, "x", "I")
		checkMethod(t, c, "f", "()V", constructor())
	}
	if _, e := classfile.WithField(api.Class{}, 1, "x", "I"); e != api.ErrVersion {
		t.Error(e)
	}
	if _, e := classfile.WithField(api.Class{Pool: []api.Const{num(1)}}, 1, "x", "I"); e != api.ErrTag {
		t.Error(e)
	}
	bare := api.Class{Major: 52, Pool: pool(utf("A"), class(1)), This: 2, Super: 2}
	if _, e := classfile.WithField(bare, 1, "x", "I"); e != api.OK {
		t.Error(e)
	}
	if _, e := classfile.WithMethod(bare, "f", "()V", constructor()); e != api.ErrAttr {
		t.Error(e)
	}
}

func TestWithAtTheLimits(t *testing.T) {
	c := sample()
	c.Fields = many(&c, 255, api.Member{Desc: atJ})
	c.Methods = many(&c, 255, method())
	for i, want := range []api.Errno{api.OK, api.ErrLong} {
		name := "z" + strings.Repeat("z", i)
		c2, e := checkField(t, c, 1, name, "I")
		if e != want {
			t.Error(e)
		}
		c3, f := checkMethod(t, c, name, "(I)I", method())
		if f != want {
			t.Error(f)
		}
		c.Fields, c.Methods = c2.Fields, c3.Methods
		c.Pool = append(c.Pool, utf("z"), utf("I"))
		if e == api.OK {
			c.Fields[255] = api.Member{Name: len(c.Pool) - 2, Desc: len(c.Pool) - 1}
			c.Methods[255].Name, c.Methods[255].Desc = len(c.Pool)-2, atFDesc
		}
	}
	// There is no room in the pool.
	for room := range 4 {
		c := sample()
		c.Pool = append(c.Pool, slices.Repeat([]api.Const{num(5)}, 4096-poolSize-room)...)
		for _, x := range []struct {
			name, desc string
			needs      int
		}{{"x", "[J", 0}, {"y", "[J", 1}, {"x", "[I", 1}, {"y", "[I", 2}, {"\x00", "[I", 9}} {
			_, e := checkField(t, c, 1, x.name, x.desc)
			if x.needs < 9 && (e == api.OK) != (x.needs <= room) || e != api.OK && x.needs < 9 && e != api.ErrLong {
				t.Error(room, x, e)
			}
			checkMethod(t, c, x.name, "("+x.desc+")V", constructor())
		}
	}
}

func TestNamesOfAClass(t *testing.T) {
	c := sample()
	for i := -2; i < poolSize+3; i++ {
		c.This, c.Super = i, i
		// Whether it is a class's name is not asked.
		want, e := "", api.ErrPool
		if i >= 0 && i < poolSize && c.Pool[i].Tag == 7 {
			want, e = meantText(c, c.Pool[i].A)
		}
		if s, f := classfile.This(c); s != want || f != e {
			t.Error(i, s, f)
		}
		if s, f := classfile.Super(c); s != want || f != e {
			t.Error(i, s, f)
		}
	}
	c.This, c.Super = 3, 5
	if s, e := classfile.This(c); s != "A" || e != api.OK {
		t.Error(s, e)
	}
	if s, e := classfile.Super(c); s != "java/lang/Object" || e != api.OK {
		t.Error(s, e)
	}
	for _, i := range []int{0, 3, -1, math.MinInt, math.MaxInt} {
		bare := api.Class{This: i, Super: i}
		if s, e := classfile.This(bare); s != "" || e != api.ErrPool {
			t.Error(i, s, e)
		}
		if s, e := classfile.Super(bare); s != "" || e != api.ErrPool {
			t.Error(i, s, e)
		}
	}
}

func TestNamesOfMembers(t *testing.T) {
	c := sample()
	// Pools as they are, and members as they are.
	c.Pool[0] = utf("zero")
	c.Pool = append(c.Pool, api.Const{Tag: 1, Text: "\x00", A: 5})
	asked := []int{math.MinInt, -1, math.MaxInt, 1<<32 + atX}
	for i := range poolSize + 3 {
		asked = append(asked, i)
	}
	for _, i := range asked {
		for _, k := range asked {
			name, e := meantText(c, i)
			desc, f := meantText(c, k)
			want, fault := api.Named{Name: name, Desc: desc}, max(e, f)
			if fault != api.OK {
				want = api.Named{}
			}
			m := api.Member{Access: -1, Name: i, Desc: k, Stack: 99}
			if n, e := classfile.Member(c, m); n != want || e != fault {
				t.Fatal(i, k, n, e)
			}
		}
	}
	if n, e := classfile.Member(c, c.Methods[1]); e != api.OK || n != (api.Named{Name: "f", Desc: "(I)I"}) {
		t.Error(n, e)
	}
	if n, e := classfile.Member(c, c.Fields[0]); e != api.OK || n != (api.Named{Name: "x", Desc: "J"}) {
		t.Error(n, e)
	}
	if n, e := classfile.Member(api.Class{}, api.Member{}); e != api.ErrPool || n != (api.Named{}) {
		t.Error(n, e)
	}
}
