package layout_test

import (
	"slices"
	"strconv"
	"strings"
	"testing"

	"tabard/api"
	"tabard/classfile"
	"tabard/hier"
	"tabard/layout"
)

// TestExample is the document's example.
func TestExample(t *testing.T) {
	l := held(t, of("A", "x I, static s J", "f ()V, g ()V"), of("B:A", "y J", "g ()V, h ()V"))
	k := l.Klasses()[9]
	if !slices.Equal(k.Table, []int{0, 2, 3}) || !slices.Equal(k.Fields, []api.Type{{Kind: api.TyInt}, {Kind: api.TyLong}}) || l.Funcs() != 4 {
		t.Error(k, l.Funcs())
	}
	if s, is := l.Func(2); s != (api.Spot{Class: 9, Method: 0, Number: 2}) || !is {
		t.Error(s, is)
	}
}

func TestShapes(t *testing.T) {
	for _, l := range [][]decl{
		nil, {of("A", "", "")},
		{of("A", "x I, x J, x [I, x LA;, x [[LA;", "f ()V, f (I)V, f ()I, f (J)J, f ()LA;, f ([I)[I")},
		// A super that comes behind, and one that is built in.
		{of("B:A", "y J", "g ()V, h ()V"), of("A", "x I, static s J", "f ()V, g ()V")},
		{of("C:B", "z I", "f ()V"), of("B:A", "y I", "k ()V"), of("A", "x J", "f ()V")},
		{of("E:"+throwable, "x I", "f ()V"), of("F:java/lang/ArithmeticException", "x I", "f ()V"), of("G:E", "y I", "g ()V, f ()V")},
		// A field that hides one above it, static or not.
		{of("A", "x I, static y I, z I", ""), of("B:A", "static x I, y I, z I", ""), of("C:B", "x I", "")},
		{of("A", "static x I", ""), of("B:A", "x J", ""), of("C:B", "static x I, static x J", "")},
		// Statics and constructors have no slot, and stand where they may between the others.
		{of("A", "", "static s ()V, f ()V, <init> ()V, g ()V, static t ()V, h ()V"), of("B:A", "", "<init> ()V, h ()V, static s ()V, i ()V, <init> (I)V, f ()V")},
		{of("A", "", "<init> ()V"), of("B:A", "", ""), of("C:B", "", "<init> ()V, <init> (J)V"), of("D:C", "", "<init> (I)V")},
		// A method that comes back further down, and classes beside each other that share nothing but what is above.
		{of("A", "", "f ()V"), of("B:A", "", "g ()V"), of("C:B", "", "f ()V"), of("D:C", "", "h ()V, g ()V, f ()V")},
		{of("A", "x I", "f ()V"), of("B:A", "y I", "g ()V"), of("C:A", "z I", "h ()V, g ()V"), of("D:C", "y I", "g ()V"), of("E:A", "", "g ()V"), of("F", "", "g ()V")},
		{of("A", "", ""), of("B:A", "", "static f ()V"), of("C:A", "", "f ()V"), of("D:B", "", "static f ()V"), of("E:C", "", "f ()V"), of("F", "", "static f ()V")},
		// Names that fields, methods and classes share.
		{of("A", "A LA;, f I", "A ()LA;, f ()V, I ()V"), of("Code:A", "Code I, f I", "Code ()V, f ()I, f ()V")},
		{of("A", "LA I, x LLA;", "f() ()V, f()V ()V, ( ()V, () ()V, V ()V"), of("B:A", "ALA I, x LA;", "f ()V, f() ()V, () ()V")},
	} {
		if held(t, l...) == nil {
			t.Error("refused", l)
		}
	}
}

func TestRandom(t *testing.T) {
	r := numbers(3)
	got := map[bool]int{}
	for range 1500 {
		got[held(t, random(&r)...) != nil]++
	}
	if got[true] < 300 || got[false] < 100 {
		t.Error(got)
	}
}

func TestAlike(t *testing.T) {
	for _, x := range []struct {
		l []decl
		e api.Errno
	}{
		{[]decl{of("A", "", "f ()V"), of("B:A", "", "static f ()V")}, api.ErrAlike}, {[]decl{of("A", "", "static f ()V"), of("B:A", "", "f ()V")}, api.ErrAlike},
		{[]decl{of("A", "", "static f ()V"), of("B:A", "", "static f ()V")}, api.OK}, {[]decl{of("A", "", "f ()V"), of("B:A", "", "f ()V")}, api.OK},
		// One of another signature is another one.
		{[]decl{of("A", "", "f ()V"), of("B:A", "", "static f ()I, static g ()V, static f (I)V")}, api.OK},
		// The class above comes behind, or far above, or at the end of a way beside others.
		{[]decl{of("B:A", "", "static f ()V"), of("A", "", "f ()V")}, api.ErrAlike}, {[]decl{of("A", "", "f ()V"), of("B:A", "", "g ()V"), of("C:B", "", "g ()V, static f ()V")}, api.ErrAlike},
		{[]decl{of("A", "", "f ()V"), of("B:A", "", ""), of("C:A", "", ""), of("D:C", "", "static f ()V")}, api.ErrAlike}, {[]decl{of("A", "", "f ()V"), of("B:A", "", "f ()V"), of("C:B", "", "static f ()V")}, api.ErrAlike},
		{[]decl{of("A", "", "g ()V, static f ()V, h ()V"), of("B:A", "", "static f ()V, f ()I"), of("C:B", "", "g ()V, h ()V, f ()I, f ()V")}, api.ErrAlike},
		// Classes that do not stand above are not asked, wherever they come.
		{[]decl{of("A", "", ""), of("B:A", "", "f ()V"), of("C:A", "", "static f ()V"), of("D:A", "", "f ()V"), of("E:C", "", "static f ()V")}, api.OK}, {[]decl{of("A", "", "static f ()V"), of("B", "", "f ()V")}, api.OK}, {[]decl{of("B:A", "", "f ()V"), of("C:A", "", "static f ()V"), of("A", "", "")}, api.OK},
		// Fields may be otherwise than those above them, and constructors are not asked.
		{[]decl{of("A", "x I, static y I", "<init> ()V"), of("B:A", "static x I, y I", "<init> ()V")}, api.OK},
	} {
		if made := held(t, x.l...); (made != nil) != (x.e == api.OK) {
			t.Error(x.l, made, x.e)
		}
	}
}

// TestClasses has class files that are not those of the hierarchy; that comes ahead of ErrAlike.
func TestClasses(t *testing.T) {
	a, b, c := of("A", "", "f ()V"), of("B:A", "", "static f ()V"), of("C:B", "", "")
	for _, x := range []struct{ lines, l []decl }{
		{nil, []decl{a}}, {[]decl{a}, nil}, {[]decl{a, b}, []decl{a}}, {[]decl{a}, []decl{a, b}}, {[]decl{a, b, c}, []decl{a, b}}, {[]decl{a, b}, []decl{a, b, c}}, {[]decl{a, b}, []decl{b, a}}, {[]decl{b, a}, []decl{a, b}}, {[]decl{a, b}, []decl{a, a}}, {[]decl{a, b}, []decl{b, b}}, {[]decl{a, b, c}, []decl{a, c, b}},
		// A class of another name, or under another one.
		{[]decl{a}, []decl{of("a", "", "")}}, {[]decl{a}, []decl{of("A/A", "", "")}}, {[]decl{a}, []decl{of("A:A", "", "")}}, {[]decl{a}, []decl{of("A:"+throwable, "", "")}}, {[]decl{of("A:"+throwable, "", "")}, []decl{a}}, {[]decl{a, b}, []decl{a, of("B", "", "")}}, {[]decl{a, of("B", "", "")}, []decl{a, b}}, {[]decl{a, b, of("C:A", "", "")}, []decl{a, b, c}}, {[]decl{a}, []decl{of("A:B", "", "")}},
		{[]decl{a}, []decl{of(object, "", "")}}, {[]decl{a}, []decl{of(throwable, "", "")}}, {nil, []decl{of(throwable, "", "")}},
	} {
		if made, e := layout.New(hierarchy(t, x.lines), files(x.l)...); made != nil || e != api.ErrClasses {
			t.Error(x, made, e)
		}
	}
	for _, h := range []*hier.Hier{nil, zeroHier()} {
		for _, l := range [][]decl{nil, {a}, {a, b}, eightClasses()} {
			if made, e := layout.New(h, files(l)...); made != nil || e != api.ErrClasses {
				t.Error(l, made, e)
			}
		}
	}
}

// eightClasses are as many classes as are built in: in a hierarchy that no call made there are none.
func eightClasses() []decl {
	return chain(8, 0, 0, nil, nil)
}

// TestNamesThatAreNone has hierarchies with names that no class file can have.
func TestNamesThatAreNone(t *testing.T) {
	for _, line := range []api.Line{{Name: "", Super: object}, {Name: "[I", Super: object}, {Name: "A/", Super: object}} {
		h, e := hier.New(line)
		if e != api.OK {
			t.Fatal(e)
		}
		if made, e := layout.New(h, file(of("A", "", ""))); made != nil || e != api.ErrClasses {
			t.Error(line, made, e)
		}
	}
}

// TestChecks has class files that may not be, each of which has another error: the first one's comes ahead of all else.
func TestChecks(t *testing.T) {
	l := []decl{of("A", "x I", "f ()V"), of("B:A", "x I", "f ()V"), of("C:B", "x I", "f ()V")}
	faults := []struct {
		f func(c *api.Class)
		e api.Errno
	}{
		{func(c *api.Class) { c.Minor = 1 }, api.ErrVersion}, {func(c *api.Class) { c.Pool[0].Tag = 1 }, api.ErrTag}, {func(c *api.Class) { c.Access = 2 }, api.ErrAccess}, {func(c *api.Class) { c.This = 0 }, api.ErrPool}, {func(c *api.Class) { c.Super = -1 }, api.ErrPool},
		{func(c *api.Class) { c.Fields = append(c.Fields, c.Fields[0]) }, api.ErrTwice}, {func(c *api.Class) { c.Methods = append(c.Methods, c.Methods[0]) }, api.ErrTwice}, {func(c *api.Class) { c.Fields[0].Stack = 1 }, api.ErrMember}, {func(c *api.Class) { c.Fields[0].Desc = c.Methods[0].Desc }, api.ErrDesc}, {func(c *api.Class) { c.Methods[0].Code = nil }, api.ErrShort}, {func(c *api.Class) { c.Methods[0].Code = []byte{255} }, api.ErrOpcode}, {func(c *api.Class) { c.Methods[0].Handlers = make([]api.Handler, 1) }, api.ErrHandler}, {func(c *api.Class) { c.Pool[1].Text = "code" }, api.ErrAttr},
		{func(c *api.Class) { *c = api.Class{} }, api.ErrVersion}, {func(c *api.Class) { c.Methods = slices.Repeat(c.Methods, 257) }, api.ErrLong},
	}
	for i, x := range faults {
		for at := range l {
			all := files(l)
			x.f(&all[at])
			if e := classfile.Check(all[at]); e != x.e {
				t.Fatal(i, e)
			}
			for k := at + 1; k < len(all); k++ {
				faults[(i+k)%len(faults)].f(&all[k])
			}
			for _, h := range []*hier.Hier{hierarchy(t, l), hierarchy(t, nil), hierarchy(t, l[:2]), nil, zeroHier()} {
				if made, e := layout.New(h, all...); made != nil || e != x.e {
					t.Error(i, at, made, e)
				}
			}
		}
	}
	// Also where the files ahead of it are not of the hierarchy, or not alike.
	all := files([]decl{of("Z", "", ""), of("A", "", "f ()V"), of("B:A", "", "static f ()V")})
	all = append(all, api.Class{Major: 44})
	if made, e := layout.New(hierarchy(t, l), all...); made != nil || e != api.ErrVersion {
		t.Error(made, e)
	}
	if made, e := layout.New(nil, all[:3]...); made != nil || e != api.ErrClasses {
		t.Error(made, e)
	}
}

// TestLimits has as many classes as may be, with as many members: each class's own, and such as hide those above.
func TestLimits(t *testing.T) {
	long := strings.Repeat("n", 240)
	name := func(class, i int) string { return long + strconv.Itoa(class) + "." + strconv.Itoa(i) }
	own := func(class, i int) string { return strings.ReplaceAll(name(class, i), ".", "_") }
	for _, x := range []struct {
		field, method func(class, i int) string
		places, slots int // of each class
		all           int // of all, ahead of that
	}{
		{func(c, i int) string { return own(c, i) + " I" }, func(c, i int) string { return own(c, i) + " ()V" }, 256, 256, 0},
		{func(c, i int) string { return own(0, i) + " J" }, func(c, i int) string { return own(0, i) + " ()V" }, 256, 0, 256},
		{func(c, i int) string { return "static " + own(0, i) + " J" }, func(c, i int) string { return "static " + own(c, i) + " ()V" }, 0, 0, 0},
	} {
		l := chain(64, 256, 256, x.field, x.method)
		made, e := layout.New(hierarchy(t, l), files(l)...)
		if e != api.OK || made.Funcs() != 64*256 {
			t.Fatal(e)
		}
		for n, k := range made.Klasses() {
			c := max(0, n-7)
			if len(k.Fields) != c*x.places || len(k.Table) != c*x.slots+min(c, 1)*x.all {
				t.Error(n, len(k.Fields), len(k.Table))
			}
		}
		for number := range made.Funcs() {
			if s, is := made.Func(number); s != (api.Spot{Class: 8 + number/256, Method: number % 256, Number: number}) || !is {
				t.Fatal(number, s, is)
			}
			if slot := made.Slot(number); x.slots+x.all > 0 {
				if k, is := made.Select(8+number/256, slot); k != number || !is {
					t.Fatal(number, slot, k, is)
				}
			} else if slot != -1 {
				t.Fatal(number, slot)
			}
		}
		top, far := read(x.field(0, 255)), read(x.method(0, 255))
		if p, is := made.Field(71, top.name, top.desc); !is || p.Static != top.static || p.Class != 8 && p.Class != 71 {
			t.Error(p, is)
		}
		if s, is := made.Method(71, far.name, far.desc); !is || s.Method != 255 || s.Class != 8 && s.Class != 71 {
			t.Error(s, is)
		}
	}
}
