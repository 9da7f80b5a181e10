package classfile_test

import (
	"bytes"
	"slices"
	"strconv"
	"testing"

	"tabard/api"
	"tabard/classfile"
)

// numbers are told by a rule, so that each run of the tests has the same ones.
type numbers uint64

func (n *numbers) below(k int) int {
	*n = *n*6364136223846793005 + 1442695040888963407
	return int(uint64(*n)>>33) % k
}

func pick[T any](n *numbers, l ...T) T { return l[n.below(len(l))] }

// code are instructions of one byte, and handlers over them.
func (n *numbers) code(classes []int) ([]byte, []api.Handler) {
	b := make([]byte, 1+n.below(12))
	for i := range b {
		b[i] = pick(n, byte(0), 3, 26, 87, 96, 172, 177)
	}
	var l []api.Handler
	for range n.below(4) {
		from := n.below(len(b))
		l = append(l, api.Handler{From: from, To: from + 1 + n.below(len(b)-from), At: n.below(len(b)), Type: pick(n, append(classes, 0)...)})
	}
	return b, l
}

// class is one that may be: its pool is in any order, and has entries that nothing names, or that are there twice.
func (n *numbers) class() api.Class {
	c := api.Class{Major: 45 + n.below(8), Access: pick(n, 0, 1, 32, 33), Pool: pool()}
	at := map[string]int{}
	names := []string{"Code", "A", "a/b", "x", "y", "<init>", "I", "J", "[J", "La/b;", "()V", "(I)I", "(J[I)J", "()I"}
	for range 1 + n.below(3) {
		for _, i := range n.order(len(names)) {
			if n.below(4) == 0 {
				c.Pool = append(c.Pool, pick(n, []api.Const{num(int64(n.below(99)))}, []api.Const{long(int64(n.below(99))), none}, []api.Const{{Tag: 10, A: n.below(65536), B: n.below(65536)}})...)
			}
			at[names[i]] = len(c.Pool)
			c.Pool = append(c.Pool, utf(names[i]))
		}
	}
	var classes []int
	for _, s := range []string{"A", "a/b", "x"} {
		classes = append(classes, len(c.Pool))
		c.Pool = append(c.Pool, class(at[s]))
	}
	c.This, c.Super = pick(n, classes...), pick(n, classes...)
	for _, s := range n.some("x", "y", "Code", "A") {
		for _, d := range n.some("I", "J", "[J", "La/b;") {
			c.Fields = append(c.Fields, api.Member{Access: pick(n, 0, 1, 8, 9), Name: at[s], Desc: at[d]})
		}
	}
	for _, s := range n.some("x", "y", "<init>", "I") {
		for _, d := range n.some("()V", "(I)I", "(J[I)J", "()I") {
			m := api.Member{Access: pick(n, 0, 1, 8, 9), Name: at[s], Desc: at[d], Stack: n.below(65), Locals: 4 + n.below(61)}
			if s == "<init>" {
				m.Access, m.Desc = m.Access&1, at["()V"]
			}
			m.Code, m.Handlers = n.code(classes)
			c.Methods = append(c.Methods, m)
			if s == "<init>" {
				break
			}
		}
	}
	return c
}

// order are the numbers below k in some order.
func (n *numbers) order(k int) []int {
	var l []int
	for i := range k {
		l = slices.Insert(l, n.below(len(l)+1), i)
	}
	return l
}

// some are some of the texts, in some order.
func (n *numbers) some(l ...string) []string {
	var some []string
	for _, i := range n.order(len(l))[:n.below(len(l)+1)] {
		some = append(some, l[i])
	}
	return some
}

func TestClassesThereAndBack(t *testing.T) {
	n := numbers(1)
	for range 5000 {
		c := n.class()
		if e := meantCheck(c); e != api.OK {
			t.Fatal("the test itself is wrong", e)
		}
		if e := classfile.Check(c); e != api.OK {
			t.Fatal(e)
		}
		b, e := classfile.Encode(c)
		if e != api.OK || !bytes.Equal(b, meantBytes(c)) {
			t.Fatal(b, e)
		}
		back, e := classfile.Decode(b)
		if e != api.OK || !alike(back, c) || !classfile.Same(back, c) || !classfile.Same(classfile.Clone(back), c) {
			t.Fatal(back, e)
		}
		if _, e := classfile.Decode(b[:n.below(len(b))]); e != api.ErrEnds {
			t.Fatal(e)
		}
	}
}

func TestBytesThereAndBack(t *testing.T) {
	n := numbers(2)
	taken := 0
	for range 20000 {
		b := meantBytes(n.class())
		for range n.below(3) {
			b[n.below(len(b))] = byte(n.below(256) >> n.below(8))
		}
		checkDecode(t, b)
		if _, e := classfile.Decode(b); e == api.OK {
			taken++
		}
	}
	if taken < 5000 {
		t.Error(taken)
	}
}

// TestGrownClasses adds members, some of which may not be: those that may are there, in order, by their names.
func TestGrownClasses(t *testing.T) {
	n := numbers(3)
	added := 0
	for range 500 {
		c, e := classfile.New(pick(&n, "A", "Code", "a/b"), pick(&n, "A", "B", "I"))
		if e != api.OK {
			t.Fatal(e)
		}
		var fields, methods []api.Named
		for range 30 {
			name := pick(&n, "A", "x", "y", "f", "Code", "<init>", "a.b", "", "I", "\x80")
			var d api.Class
			if n.below(2) == 0 {
				desc := pick(&n, "I", "J", "[J", "LA;", "V", "x")
				if d, e = checkField(t, c, n.below(11), name, desc); e == api.OK {
					fields = append(fields, api.Named{Name: name, Desc: desc})
				}
			} else {
				desc := pick(&n, "()V", "(I)I", "(J[I)J", "()I", "I")
				m := api.Member{Access: n.below(11), Name: n.below(9), Desc: n.below(9), Stack: n.below(70), Locals: n.below(70)}
				m.Code, m.Handlers = n.code([]int{c.This, c.Super, n.below(9)})
				if d, e = checkMethod(t, c, name, desc, m); e == api.OK {
					methods = append(methods, api.Named{Name: name, Desc: desc})
				}
			}
			if e != api.OK {
				continue
			}
			added++
			c = d
			if e := classfile.Check(c); e != api.OK {
				t.Fatal(e)
			}
			if !slices.Equal(names(t, c, c.Fields), fields) || !slices.Equal(names(t, c, c.Methods), methods) {
				t.Fatal(c, fields, methods)
			}
		}
		if back, e := classfile.Decode(meantBytes(c)); e != api.OK || !classfile.Same(back, c) {
			t.Fatal(e)
		}
	}
	if added < 1000 {
		t.Error(added)
	}
}

// names are what members are named by.
func names(t *testing.T, c api.Class, l []api.Member) []api.Named {
	t.Helper()
	var all []api.Named
	for _, m := range l {
		n, e := classfile.Member(c, m)
		if e != api.OK {
			t.Fatal(e)
		}
		all = append(all, n)
	}
	return all
}

// TestGrownToTheLimit adds members until there may be no more.
func TestGrownToTheLimit(t *testing.T) {
	c, _ := classfile.New("A", "B")
	for i := range 256 {
		var e api.Errno
		if c, e = classfile.WithField(c, 0, "x"+strconv.Itoa(i), "I"); e != api.OK {
			t.Fatal(i, e)
		}
		if c, e = classfile.WithMethod(c, "x"+strconv.Itoa(i), "()V", api.Member{Access: 8, Code: []byte{177}}); e != api.OK {
			t.Fatal(i, e)
		}
	}
	if d, e := classfile.WithField(c, 0, "x", "I"); e != api.ErrLong || !isZero(d) {
		t.Error(e)
	}
	if d, e := classfile.WithMethod(c, "x", "()V", api.Member{Access: 8, Code: []byte{177}}); e != api.ErrLong || !isZero(d) {
		t.Error(e)
	}
	for i, l := range [][]api.Named{names(t, c, c.Fields), names(t, c, c.Methods)} {
		for k, n := range l {
			if want := (api.Named{Name: "x" + strconv.Itoa(k), Desc: []string{"I", "()V"}[i]}); n != want {
				t.Error(n, want)
			}
		}
	}
	b, e := classfile.Encode(c)
	if back, f := classfile.Decode(b); e != api.OK || f != api.OK || !alike(back, c) {
		t.Error(e, f)
	}
}
