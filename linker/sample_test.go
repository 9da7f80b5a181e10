package linker_test

import (
	"strconv"
	"strings"
	"testing"

	"tabard/api"
	"tabard/classfile"
	"tabard/linker"
	"tabard/opcode"
)

const object, throwable = "java/lang/Object", "java/lang/Throwable"

// decl is a class by texts: B:A is B under A, B is B under java/lang/Object; fields are names and descriptors, with static ahead of them or not, and a comma between.
type decl struct {
	class   string
	fields  string
	methods []meth
}

// meth is a method by texts: its name and its descriptor, with static ahead of them or not; instructions with a ; between; handlers.
type meth struct {
	what     string
	stack    int
	locals   int
	code     string
	handlers []string // three addresses and a class; without one it is of whatever is thrown
}

// of is a class, fn a method with enough of everything.
func of(class, fields string, methods ...meth) decl { return decl{class, fields, methods} }

func fn(what, code string, handlers ...string) meth { return meth{what, 8, 8, code, handlers} }

// start is a class Main whose main does nothing.
func start() decl { return of("Main", "", fn("static main ()I", "iconst_3; ireturn")) }

func (d decl) name() string {
	name, _, _ := strings.Cut(d.class, ":")
	return name
}

func (d decl) super() string {
	_, super, is := strings.Cut(d.class, ":")
	if !is {
		return object
	}
	return super
}

// memb is a member, out of its text.
type memb struct {
	name, desc string
	static     bool
}

func member(s string) memb {
	s, static := strings.CutPrefix(s, "static ")
	name, desc, _ := strings.Cut(s, " ")
	return memb{name, desc, static}
}

// access has public at each second member: nothing hangs on it.
func (m memb) access(i int) int {
	if m.static {
		return api.AccStatic | i&1
	}
	return i & 1
}

// pool is a class file's pool while it is made.
type pool struct {
	l  []api.Const
	at map[api.Const]int
}

func (p *pool) add(c api.Const) int {
	if i, is := p.at[c]; is {
		return i
	}
	i := len(p.l)
	p.l, p.at[c] = append(p.l, c), i
	if c.Tag == api.TagLong {
		p.l = append(p.l, api.Const{})
	}
	return i
}

func (p *pool) text(s string) int  { return p.add(api.Const{Tag: api.TagUtf8, Text: s}) }
func (p *pool) class(s string) int { return p.add(api.Const{Tag: api.TagClass, A: p.text(s)}) }

// ref is a field's or a method's entry, of a class, a dot, a name, a blank, a descriptor.
func (p *pool) ref(tag int, s string) int {
	class, s, _ := strings.Cut(s, ".")
	name, desc, _ := strings.Cut(s, " ")
	return p.add(api.Const{Tag: tag, A: p.class(class), B: p.add(api.Const{Tag: api.TagName, A: p.text(name), B: p.text(desc)})})
}

func number(s string) int {
	n, e := strconv.Atoi(s)
	if e != nil {
		panic(s)
	}
	return n
}

func long(s string) int64 {
	n, e := strconv.ParseInt(s, 10, 64)
	if e != nil {
		panic(s)
	}
	return n
}

// entry is the index of what an instruction names: by a word of its own (int, long, class, field, method, text, or # and the index itself), or of the sort that its opcode has.
func (p *pool) entry(op int, s string) int {
	sort, rest, _ := strings.Cut(s, ": ")
	if rest == "" {
		rest = s
		switch opcode.Name(op) {
		case "ldc":
			sort = "int"
		case "ldc2_w":
			sort = "long"
		case "new", "anewarray", "checkcast", "instanceof":
			sort = "class"
		case "invokevirtual", "invokespecial", "invokestatic":
			sort = "method"
		default:
			sort = "field"
		}
	}
	switch sort {
	case "int":
		return p.add(api.Const{Tag: api.TagInt, N: long(rest)})
	case "long":
		return p.add(api.Const{Tag: api.TagLong, N: long(rest)})
	case "class":
		return p.class(rest)
	case "field":
		return p.ref(api.TagField, rest)
	case "method":
		return p.ref(api.TagMethod, rest)
	case "text":
		return p.text(rest)
	case "#":
		return number(rest)
	}
	panic(s)
}

// code is the bytes of instructions; jumps have addresses.
func (p *pool) code(s string) []byte {
	var l []api.Instr
	at := 0
	for x := range strings.SplitSeq(s, "; ") {
		name, rest, _ := strings.Cut(x, " ")
		op, is := opcode.Find(name)
		if !is {
			panic(x)
		}
		i := api.Instr{At: at, Op: op}
		switch form, _ := opcode.Form(op); form {
		case api.FoNone:
		case api.FoLow, api.FoIndex:
			i.A = p.entry(op, rest)
		case api.FoInc:
			a, b, _ := strings.Cut(rest, " ")
			i.A, i.B = number(a), number(b)
		default:
			i.A = number(rest)
		}
		l = append(l, i)
		n, _ := opcode.Size(op)
		at += n
	}
	b, e := opcode.Encode(l...)
	if e != api.OK {
		panic(s)
	}
	return b
}

func (p *pool) handler(s string) api.Handler {
	l := strings.Fields(s)
	h := api.Handler{From: number(l[0]), To: number(l[1]), At: number(l[2])}
	if len(l) > 3 {
		h.Type = p.class(l[3])
	}
	return h
}

func class(d decl) api.Class {
	p := &pool{l: []api.Const{{}}, at: map[api.Const]int{}}
	p.text("Code")
	c := api.Class{Major: 52, Access: api.AccPublic | api.AccSuper, This: p.class(d.name()), Super: p.class(d.super())}
	if d.fields != "" {
		for i, s := range strings.Split(d.fields, ", ") {
			x := member(s)
			c.Fields = append(c.Fields, api.Member{Access: x.access(i), Name: p.text(x.name), Desc: p.text(x.desc)})
		}
	}
	for i, m := range d.methods {
		x := member(m.what)
		f := api.Member{Access: x.access(i), Name: p.text(x.name), Desc: p.text(x.desc), Stack: m.stack, Locals: m.locals, Code: p.code(m.code)}
		for _, s := range m.handlers {
			f.Handlers = append(f.Handlers, p.handler(s))
		}
		c.Methods = append(c.Methods, f)
	}
	c.Pool = p.l
	return c
}

func file(t *testing.T, d decl) []byte {
	t.Helper()
	b, e := classfile.Encode(class(d))
	if e != api.OK {
		t.Fatal(d, e)
	}
	return b
}

func files(t *testing.T, l ...decl) [][]byte {
	t.Helper()
	var all [][]byte
	for _, d := range l {
		all = append(all, file(t, d))
	}
	return all
}

// linked links classes that may be, and holds what comes of them against what is meant.
func linked(t *testing.T, l ...decl) api.Program {
	t.Helper()
	p, n, e := held(t, files(t, l...)...)
	if e != api.OK || n != 0 {
		t.Fatal(l, n, e)
	}
	return p
}

// refused links classes that may not be.
func refused(t *testing.T, n int, e api.Errno, l ...decl) {
	t.Helper()
	if _, at, got := held(t, files(t, l...)...); at != n || got != e {
		t.Error(l, at, got, "not", n, e)
	}
}

// called is the method of a program with a name such as A.f()V.
func called(t *testing.T, p api.Program, name string) api.Func {
	t.Helper()
	for n, f := range p.Funcs {
		if linker.Name(p, n) == name {
			return f
		}
	}
	t.Fatal("no method", name)
	return api.Func{}
}

// numbers tells numbers that look as if they were in no order: the same ones each time.
type numbers uint64

func (r *numbers) below(n int) int {
	*r = *r*6364136223846793005 + 1442695040888963407
	return int(uint64(*r) >> 33 % uint64(n))
}

func (r *numbers) one(l ...string) string { return l[r.below(len(l))] }
