package desc_test

import (
	"slices"
	"testing"

	"tabard/api"
	"tabard/desc"
)

// numbers are told by a rule, so that each run of the tests has the same ones.
type numbers uint64

func (n *numbers) below(k int) int {
	*n = *n*6364136223846793005 + 1442695040888963407
	return int(uint64(*n)>>33) % k
}

// typ is a type that has a descriptor.
func (n *numbers) typ() api.Type {
	names := []string{"A", "a/B", "I", "J", "V", "(", ")V", "java/lang/Object", "a$1/-"}
	bases := []string{"I", "J", "LA;", "La/b/C;", "L);", "LI;", "LL;"}
	switch n.below(4) {
	case 0:
		return num
	case 1:
		return long
	case 2:
		return ref(names[n.below(len(names))])
	}
	return ref("[[[["[:1+n.below(4)] + bases[n.below(len(bases))])
}

func TestFieldsThereAndBack(t *testing.T) {
	read := map[api.Type]string{}
	for s := range texts("IJVL[;a/", 6) {
		x, e := desc.Field(s)
		if e != api.OK {
			continue
		}
		if other, twice := read[x]; twice {
			t.Errorf("%q and %q are one type", s, other)
		}
		read[x] = s
		if back, e := desc.Print(x); e != api.OK || back != s {
			t.Errorf("Print of Field of %q: %q, %d", s, back, e)
		}
	}
	if len(read) < 50 {
		t.Fatal(len(read))
	}
	// All types with short names: those that Print takes are those that Field answers.
	for name := range texts("IVL[;a/", 5) {
		for kind := -1; kind <= 6; kind++ {
			x := api.Type{Kind: kind, Name: name}
			s, e := desc.Print(x)
			if e != api.OK {
				if _, is := read[x]; is {
					t.Errorf("Print(%v) = %d", x, e)
				}
				continue
			}
			if back, e := desc.Field(s); e != api.OK || back != x {
				t.Errorf("Field of Print of %v: %v, %d", x, back, e)
			}
		}
	}
}

func TestMethodsThereAndBack(t *testing.T) {
	told := 0
	try := func(s string) {
		l, r, e := desc.Method(s)
		if e != api.OK {
			return
		}
		told++
		if back, e := desc.PrintMethod(r, l...); e != api.OK || back != s {
			t.Errorf("PrintMethod of Method of %q: %q, %d", s, back, e)
		}
	}
	for s := range texts("()IJVLa;[", 5) {
		try("(" + s)
		try("(" + s + ")V")
		try("(" + s + ")[LB;")
	}
	if told < 1000 {
		t.Fatal(told)
	}
}

// method is the types of a method that has a descriptor.
func (n *numbers) method() (api.Type, []api.Type) {
	args := make([]api.Type, n.below(10))
	for i := range args {
		args[i] = n.typ()
	}
	if n.below(3) == 0 {
		return top, args
	}
	return n.typ(), args
}

func TestMethodsBackAndThere(t *testing.T) {
	n := numbers(1)
	type method struct {
		ret  api.Type
		args []api.Type
	}
	written := map[string]method{}
	for range 20000 {
		ret, args := n.method()
		s, e := desc.PrintMethod(ret, args...)
		if e != api.OK {
			t.Fatal(ret, args, e)
		}
		if l, r, e := desc.Method(s); e != api.OK || r != ret || !slices.Equal(l, args) {
			t.Fatal(s, l, r, e)
		}
		// No text is one in two ways.
		if other, twice := written[s]; twice && (other.ret != ret || !slices.Equal(other.args, args)) {
			t.Fatal(s, ret, args, other)
		}
		written[s] = method{ret, args}
	}
}

// TestMethodIsItsArgumentsOneBehindTheOther holds a method's descriptor against those of its types.
func TestMethodIsItsArgumentsOneBehindTheOther(t *testing.T) {
	n := numbers(2)
	for range 20000 {
		ret, args := n.method()
		want := "("
		for _, x := range args {
			s, e := desc.Print(x)
			if e != api.OK {
				t.Fatal(x, e)
			}
			want += s
		}
		last := "V"
		if ret != top {
			last, _ = desc.Print(ret)
		}
		want += ")" + last
		if s, e := desc.PrintMethod(ret, args...); e != api.OK || s != want {
			t.Fatal(s, want, e)
		}
	}
}

func TestElemOfArray(t *testing.T) {
	n := numbers(3)
	for range 20000 {
		x := n.typ()
		// Up to the limit, and Elem as often back.
		l := []api.Type{x}
		for range 1 + n.below(6) {
			a, e := desc.Array(l[len(l)-1])
			if e != api.OK {
				t.Fatal(l, e)
			}
			if s, e := desc.Print(a); e != api.OK || s != a.Name {
				t.Fatal(a, s, e)
			}
			l = append(l, a)
		}
		for i := len(l) - 1; i > 0; i-- {
			if got, e := desc.Elem(l[i]); e != api.OK || got != l[i-1] {
				t.Fatal(l[i], got, e)
			}
		}
	}
}

func TestArraysUpToTheLimit(t *testing.T) {
	for _, x := range []api.Type{num, long, ref("A"), ref("a/B"), ref("[J")} {
		first, e := desc.Print(x)
		if e != api.OK {
			t.Fatal(x, e)
		}
		made := 0
		for {
			a, e := desc.Array(x)
			if e == api.ErrLong {
				break
			}
			if back, f := desc.Elem(a); e != api.OK || f != api.OK || back != x {
				t.Fatal(x, a, e, back, f)
			}
			x = a
			made++
		}
		if made != api.MaxText-len(first) {
			t.Error(first, made)
		}
	}
}
