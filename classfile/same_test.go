package classfile_test

import (
	"slices"
	"testing"

	"tabard/api"
	"tabard/classfile"
)

// differences are what a class may have that sample has not, each one alone.
func differences() []func(c *api.Class) {
	l := []func(c *api.Class){
		func(c *api.Class) { c.Minor = 1 }, func(c *api.Class) { c.Major = 51 }, func(c *api.Class) { c.Access = 1 }, func(c *api.Class) { c.This = 5 }, func(c *api.Class) { c.Super = 3 },
		func(c *api.Class) { c.Pool[1].Tag = 3 }, func(c *api.Class) { c.Pool[1].Text = "code" }, func(c *api.Class) { c.Pool[1].N = 1 }, func(c *api.Class) { c.Pool[1].A = 1 }, func(c *api.Class) { c.Pool[1].B = 1 }, func(c *api.Class) { c.Pool[0].N = 1 }, func(c *api.Class) { c.Pool[poolSize-1].Text = "" },
		func(c *api.Class) { c.Pool = c.Pool[:poolSize-1] }, func(c *api.Class) { c.Pool = append(c.Pool, none) }, func(c *api.Class) { c.Pool = nil },
		func(c *api.Class) { c.Fields = nil }, func(c *api.Class) { c.Fields = c.Fields[:1] }, func(c *api.Class) { c.Fields = append(c.Fields, api.Member{}) }, func(c *api.Class) { c.Methods = nil }, func(c *api.Class) { c.Methods = c.Methods[:1] }, func(c *api.Class) { c.Methods = append(c.Methods, c.Methods[0]) },
		func(c *api.Class) { slices.Reverse(c.Fields) }, func(c *api.Class) { slices.Reverse(c.Methods) }, func(c *api.Class) { slices.Reverse(c.Methods[1].Handlers) },
		func(c *api.Class) { c.Methods[1].Code[4] = 0 }, func(c *api.Class) { c.Methods[1].Code = c.Methods[1].Code[:4] }, func(c *api.Class) { c.Methods[1].Code = nil }, func(c *api.Class) { c.Methods[1].Code = append(c.Methods[1].Code, 0) },
		func(c *api.Class) { c.Methods[1].Handlers = nil }, func(c *api.Class) { c.Methods[1].Handlers = c.Methods[1].Handlers[:1] }, func(c *api.Class) { c.Methods[1].Handlers = append(c.Methods[1].Handlers, api.Handler{}) }, func(c *api.Class) { c.Methods[0].Handlers = make([]api.Handler, 1) },
		func(c *api.Class) { c.Methods[1].Handlers[1].From = 7 }, func(c *api.Class) { c.Methods[1].Handlers[1].To = 7 }, func(c *api.Class) { c.Methods[1].Handlers[1].At = 7 }, func(c *api.Class) { c.Methods[1].Handlers[1].Type = 7 },
		func(c *api.Class) { c.Fields[1].Code = []byte{0} }, func(c *api.Class) { c.Fields[0].Handlers = make([]api.Handler, 1) },
	}
	for _, pick := range []func(c *api.Class) *api.Member{
		func(c *api.Class) *api.Member { return &c.Fields[0] }, func(c *api.Class) *api.Member { return &c.Fields[1] }, func(c *api.Class) *api.Member { return &c.Methods[0] }, func(c *api.Class) *api.Member { return &c.Methods[1] },
	} {
		l = append(l, func(c *api.Class) { pick(c).Access += 16 }, func(c *api.Class) { pick(c).Name += 1 << 33 }, func(c *api.Class) { pick(c).Desc-- }, func(c *api.Class) { pick(c).Stack += 7 }, func(c *api.Class) { pick(c).Locals = -1 })
	}
	return l
}

func TestSame(t *testing.T) {
	if !classfile.Same(sample(), sample()) || !classfile.Same(api.Class{}, api.Class{}) || classfile.Same(sample(), api.Class{}) {
		t.Error("Same")
	}
	l := differences()
	for i, f := range l {
		c := sample()
		f(&c)
		kept := copied(c)
		if classfile.Same(c, sample()) || classfile.Same(sample(), c) {
			t.Error(i, "is the same")
		}
		if !classfile.Same(c, kept) || !classfile.Same(c, c) || !alike(c, kept) {
			t.Error(i, "is not the same as itself")
		}
		for k, g := range l[:i] {
			d := sample()
			g(&d)
			if classfile.Same(c, d) != alike(c, d) {
				t.Error(i, k)
			}
		}
	}
}

// TestSameOfEmptyLists holds empty lists against nil ones.
func TestSameOfEmptyLists(t *testing.T) {
	m := api.Member{Code: []byte{}, Handlers: []api.Handler{}}
	full := api.Class{Pool: []api.Const{}, Fields: []api.Member{m}, Methods: []api.Member{m}}
	if bare := (api.Class{Fields: []api.Member{{}}, Methods: []api.Member{{}}}); !classfile.Same(full, bare) || !classfile.Same(bare, full) {
		t.Error("members")
	}
	full.Fields, full.Methods = []api.Member{}, []api.Member{}
	if !classfile.Same(full, api.Class{}) || !classfile.Same(api.Class{}, full) || !classfile.Same(classfile.Clone(full), api.Class{}) {
		t.Error("classes")
	}
}

// piece is a list of a class: how to write to all of it, also to what is behind its end, and whether it is as it was.
type piece struct {
	write func()
	is    func() bool
}

func pieceOf[T any](l []T, x T, alike func(a, b T) bool) piece {
	was := slices.Clone(l)
	write := func() {
		room := l[:cap(l)]
		for i := range room {
			room[i] = x
		}
	}
	return piece{write, func() bool { return slices.EqualFunc(l, was, alike) }}
}

// pieces are all lists of a class.
func pieces(c api.Class) []piece {
	l := []piece{pieceOf(c.Pool, num(99), equal), pieceOf(c.Fields, api.Member{Name: 99}, outside), pieceOf(c.Methods, api.Member{Name: 99}, outside)}
	for _, m := range slices.Concat(c.Fields, c.Methods) {
		l = append(l, pieceOf(m.Code, 99, equal), pieceOf(m.Handlers, api.Handler{At: 99}, equal))
	}
	return l
}

func equal[T comparable](a, b T) bool { return a == b }

// outside tells whether two members are the same, but for what stands in their lists.
func outside(a, b api.Member) bool {
	return a.Access == b.Access && a.Name == b.Name && a.Desc == b.Desc && a.Stack == b.Stack && a.Locals == b.Locals && len(a.Code) == len(b.Code) && len(a.Handlers) == len(b.Handlers)
}

// checkApart holds what a call answers against all writing to what was handed in, and the other way round; and no two of its lists share anything.
func checkApart(t *testing.T, answer func() (given, got api.Class)) {
	t.Helper()
	given, got := answer()
	want := copied(got)
	for _, p := range pieces(given) {
		p.write()
	}
	if !alike(got, want) {
		t.Error("what was handed in is within the answer")
	}
	for i := range pieces(got) {
		given, got := answer()
		kept, all := copied(given), pieces(got)
		all[i].write()
		if !alike(given, kept) {
			t.Error("what is answered is within what was handed in", i)
		}
		for k, p := range all {
			if k != i && !p.is() {
				t.Error("two lists of the answer share something", i, k)
			}
		}
	}
}

// roomy is sample with room behind the end of each list, where its owner has something else.
func roomy() api.Class {
	c := sample()
	c.Pool = append(c.Pool, num(1), num(2), num(3))[:poolSize]
	c.Fields = append(c.Fields, api.Member{Name: 1}, api.Member{Name: 2})[:2]
	c.Methods = append(c.Methods, api.Member{Name: 1}, api.Member{Name: 2})[:2]
	for i := range c.Methods {
		m := &c.Methods[i]
		m.Code = append(m.Code, 1, 2, 3)[:len(m.Code)]
		m.Handlers = append(m.Handlers, api.Handler{At: 1}, api.Handler{At: 2})[:len(m.Handlers)]
	}
	return c
}

func TestClone(t *testing.T) {
	for i, f := range append(differences(), func(*api.Class) {}, func(c *api.Class) { *c = api.Class{} }, func(c *api.Class) { *c = api.Class{Fields: make([]api.Member, 300)} }) {
		c := sample()
		f(&c)
		kept := copied(c)
		if d := classfile.Clone(c); !alike(d, kept) || !alike(c, kept) || !classfile.Same(d, c) {
			t.Error(i, d)
		}
	}
	checkApart(t, func() (given, got api.Class) {
		c := roomy()
		return c, classfile.Clone(c)
	})
}

func TestAnswersAreNobodysElse(t *testing.T) {
	checkApart(t, func() (given, got api.Class) {
		c := roomy()
		d, e := classfile.WithField(c, 1, "y", "J")
		if e != api.OK {
			t.Fatal(e)
		}
		return c, d
	})
	// Also where the pool has all names already.
	checkApart(t, func() (given, got api.Class) {
		c := roomy()
		d, e := classfile.WithField(c, 1, "f", "J")
		if e != api.OK || len(d.Pool) != poolSize {
			t.Fatal(e)
		}
		return c, d
	})
	checkApart(t, func() (given, got api.Class) {
		c, m := roomy(), roomy().Methods[1]
		d, e := classfile.WithMethod(c, "g", "(I)I", m)
		if e != api.OK {
			t.Fatal(e)
		}
		c.Methods = append(c.Methods, m)
		return c, d
	})
	checkApart(t, func() (given, got api.Class) {
		b := meantBytes(sample())
		d, e := classfile.Decode(b)
		if e != api.OK {
			t.Fatal(e)
		}
		return api.Class{Methods: []api.Member{{Code: b}}}, d
	})
}

// TestRoomIsNotWrittenTo looks at what stands behind the lists that are handed in.
func TestRoomIsNotWrittenTo(t *testing.T) {
	c, m := roomy(), roomy().Methods[1]
	calls := []func(){
		func() { classfile.Check(c) }, func() { classfile.Encode(c) }, func() { classfile.Clone(c) }, func() { classfile.Same(c, c) }, func() { classfile.This(c) }, func() { classfile.Super(c) }, func() { classfile.Member(c, m) },
		func() { classfile.WithField(c, 1, "y", "J") }, func() { classfile.WithField(c, 1, "f", "J") }, func() { classfile.WithField(c, 2, "y", "J") }, func() { classfile.WithMethod(c, "g", "(I)I", m) }, func() { classfile.WithMethod(c, "g", "(I)V", api.Member{}) },
	}
	for i, call := range calls {
		call()
		if !alike(whole(c), whole(roomy())) || !alikeMembers(whole(api.Class{Methods: []api.Member{m}}).Methods, whole(api.Class{Methods: roomy().Methods[1:2:2]}).Methods) {
			t.Error(i)
		}
	}
}

// whole is a class whose lists are as long as there is room.
func whole(c api.Class) api.Class {
	c = api.Class{Pool: c.Pool[:cap(c.Pool)], Fields: slices.Clone(c.Fields[:cap(c.Fields)]), Methods: slices.Clone(c.Methods[:cap(c.Methods)])}
	for _, l := range [][]api.Member{c.Fields, c.Methods} {
		for i := range l {
			l[i].Code, l[i].Handlers = l[i].Code[:cap(l[i].Code)], l[i].Handlers[:cap(l[i].Handlers)]
		}
	}
	return c
}

func TestEncodeIsNobodysElse(t *testing.T) {
	c := sample()
	first, _ := classfile.Encode(c)
	want := slices.Clone(first)
	clear(first)
	if again, e := classfile.Encode(c); e != api.OK || !slices.Equal(again, want) || !alike(c, sample()) {
		t.Error(e)
	}
}
