package layout_test

import (
	"math"
	"strconv"
	"strings"
	"testing"

	"tabard/api"
	"tabard/hier"
)

const object, throwable = "java/lang/Object", "java/lang/Throwable"

// decl is a class by texts: B:A is B under A, B is B under java/lang/Object; a member is its name and its descriptor, with static ahead of them or not.
type decl struct {
	class   string
	fields  []string
	methods []string
}

func (d decl) name() string {
	name, _, _ := strings.Cut(d.class, ":")
	return name
}

func (d decl) super() string {
	_, super, is := strings.Cut(d.class, ":")
	if !is {
		return object
	}
	return super
}

// memb is a member, out of its text.
type memb struct {
	name, desc string
	static     bool
}

func read(s string) memb {
	s, static := strings.CutPrefix(s, "static ")
	name, desc, _ := strings.Cut(s, " ")
	return memb{name, desc, static}
}

func readAll(l []string) []memb {
	var all []memb
	for _, s := range l {
		all = append(all, read(s))
	}
	return all
}

// list is a text's parts: members, with a comma between.
func list(s string) []string {
	if s == "" {
		return nil
	}
	return strings.Split(s, ", ")
}

// of is a class by three texts.
func of(class, fields, methods string) decl { return decl{class, list(fields), list(methods)} }

// file is a class file; each text stands in its pool as often as it is named, so that equal names have indices of their own.
func file(d decl) api.Class {
	c := api.Class{Major: 52, Access: api.AccPublic | api.AccSuper, Pool: []api.Const{{}}}
	add := func(x api.Const) int {
		c.Pool = append(c.Pool, x)
		return len(c.Pool) - 1
	}
	text := func(s string) int { return add(api.Const{Tag: api.TagUtf8, Text: s}) }
	text("Code")
	c.This = add(api.Const{Tag: api.TagClass, A: text(d.name())})
	c.Super = add(api.Const{Tag: api.TagClass, A: text(d.super())})
	for i, x := range readAll(d.fields) {
		c.Fields = append(c.Fields, api.Member{Access: access(x, i), Name: text(x.name), Desc: text(x.desc)})
	}
	for i, x := range readAll(d.methods) {
		c.Methods = append(c.Methods, api.Member{Access: access(x, i), Name: text(x.name), Desc: text(x.desc), Locals: 64, Code: []byte{177}})
	}
	return c
}

// access has public at each second member: nothing hangs on it.
func access(x memb, i int) int {
	if x.static {
		return api.AccStatic | i&1
	}
	return i & 1
}

func files(l []decl) []api.Class {
	var all []api.Class
	for _, d := range l {
		all = append(all, file(d))
	}
	return all
}

func hierarchy(t *testing.T, l []decl) *hier.Hier {
	t.Helper()
	var lines []api.Line
	for _, d := range l {
		lines = append(lines, api.Line{Name: d.name(), Super: d.super()})
	}
	h, e := hier.New(lines...)
	if e != api.OK {
		t.Fatal("hier.New", lines, e)
	}
	return h
}

// far are numbers far beside all classes, methods and slots; some would be such if they were cut.
func far() []int {
	return []int{math.MinInt, math.MinInt + 1, -1 << 32, math.MinInt32, -1 << 8, -8, 1 << 16, math.MaxInt32, 1 << 32, 1<<32 + 1, 1<<32 + 8, math.MaxInt}
}

// numbers tells numbers that look as if they were in no order: the same ones each time.
type numbers uint64

func (r *numbers) below(n int) int {
	*r = *r*6364136223846793005 + 1442695040888963407
	return int(uint64(*r) >> 33 % uint64(n))
}

// random are classes in any order, with members of few names, so that many hide others.
func random(r *numbers) []decl {
	n := r.below(7)
	l := make([]decl, n)
	for i := range l {
		super := object
		if k := r.below(i+1) - 1; k >= 0 {
			super = "C" + strconv.Itoa(k)
		} else if r.below(4) == 0 {
			super = builtIn()[r.below(8)].name()
		}
		l[i] = decl{"C" + strconv.Itoa(i) + ":" + super, some(r, []string{"x I", "y I", "x J", "x [I", "f I"}, 3), some(r, []string{"f ()V", "g ()V", "f ()I", "f (I)V", "<init> ()V", "x ()V"}, 12)}
	}
	for i := range l {
		k := r.below(i + 1)
		l[i], l[k] = l[k], l[i]
	}
	return l
}

// some are some members out of a list, in any order, one of so many static.
func some(r *numbers, from []string, static int) []string {
	var l []string
	for _, s := range from {
		if r.below(2) == 0 {
			continue
		}
		if !strings.HasPrefix(s, "<") && r.below(static) == 0 {
			s = "static " + s
		}
		k := r.below(len(l) + 1)
		l = append(l, s)
		l[k], l[len(l)-1] = l[len(l)-1], l[k]
	}
	return l
}

// chain is n classes, each under the one ahead of it, each with so many members.
func chain(n, fields, methods int, field, method func(class, i int) string) []decl {
	var l []decl
	for c := range n {
		d := decl{class: "C" + strconv.Itoa(c)}
		if c > 0 {
			d.class += ":C" + strconv.Itoa(c-1)
		}
		for i := range fields {
			d.fields = append(d.fields, field(c, i))
		}
		for i := range methods {
			d.methods = append(d.methods, method(c, i))
		}
		l = append(l, d)
	}
	return l
}
