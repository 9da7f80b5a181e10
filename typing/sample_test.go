package typing_test

import (
	"strconv"
	"strings"
	"testing"

	"tabard/api"
	"tabard/classfile"
	"tabard/cpool"
	"tabard/linker"
	"tabard/opcode"
)

const object, throwable = "java/lang/Object", "java/lang/Throwable"

// class is a class by texts: B:A is B under A; members are their names and descriptors, with static ahead of them or not.
type class struct {
	name    string
	fields  []string
	methods []meth
}

// meth is a method by texts: instructions have a | between them, and labels ahead of them, each with a colon; handlers are three labels and a class or none. The label end is behind the last instruction.
type meth struct {
	what          string
	stack, locals int
	code          string
	handlers      []string
}

// maker makes a class file; what goes wrong, stops the test.
type maker struct {
	t *testing.T
	c api.Class
}

func (m *maker) ok(e api.Errno, what string) {
	m.t.Helper()
	if e != api.OK {
		m.t.Fatal(what, e)
	}
}

// split is a text's two parts; the second one is other, if there is no mark.
func split(s, mark, other string) (string, string) {
	a, b, is := strings.Cut(s, mark)
	if !is {
		b = other
	}
	return a, b
}

// member is the access, the name and the descriptor in a text.
func member(s string) (int, string, string) {
	rest, static := strings.CutPrefix(s, "static ")
	name, desc := split(rest, " ", "")
	if static {
		return api.AccStatic, name, desc
	}
	return 0, name, desc
}

func (m *maker) make(x class) []byte {
	m.t.Helper()
	var e api.Errno
	name, super := split(x.name, ":", object)
	m.c, e = classfile.New(name, super)
	m.ok(e, x.name)
	for _, s := range x.fields {
		access, name, desc := member(s)
		m.c, e = classfile.WithField(m.c, access, name, desc)
		m.ok(e, s)
	}
	for _, f := range x.methods {
		access, name, desc := member(f.what)
		code, at := m.code(f.code)
		body := api.Member{Access: access, Stack: f.stack, Locals: f.locals, Code: code}
		for _, s := range f.handlers {
			body.Handlers = append(body.Handlers, m.handler(s, at))
		}
		m.c, e = classfile.WithMethod(m.c, name, desc, body)
		m.ok(e, x.name+" "+f.what)
	}
	b, e := classfile.Encode(m.c)
	m.ok(e, x.name)
	return b
}

func (m *maker) handler(s string, at map[string]int) api.Handler {
	l := strings.Fields(s)
	h := api.Handler{From: at[l[0]], To: at[l[1]], At: at[l[2]]}
	if len(l) > 3 {
		h.Type = m.classEntry(l[3])
	}
	return h
}

// code is instructions' bytes, and the labels' addresses.
func (m *maker) code(s string) ([]byte, map[string]int) {
	m.t.Helper()
	labels, l, words := map[string]int{}, []api.Instr{}, [][]string{}
	n := 0
	for text := range strings.SplitSeq(s, " | ") {
		for label, rest, is := strings.Cut(text, ": "); is; label, rest, is = strings.Cut(text, ": ") {
			labels[label], text = n, rest
		}
		words = append(words, strings.Fields(text))
		op, is := opcode.Find(words[len(words)-1][0])
		if !is {
			m.t.Fatal(text)
		}
		l = append(l, api.Instr{At: n, Op: op})
		size, _ := opcode.Size(op)
		n += size
	}
	labels["end"] = n
	for i := range l {
		if w := words[i][1:]; len(w) > 0 {
			l[i].A, l[i].B = m.operands(l[i].Op, w, labels)
		}
	}
	b, e := opcode.Encode(l...)
	m.ok(e, s)
	return b, labels
}

// operands are what stands behind an instruction's name.
func (m *maker) operands(op int, words []string, labels map[string]int) (int, int) {
	switch form, _ := opcode.Form(op); form {
	case api.FoJump:
		return labels[words[0]], 0
	case api.FoInc:
		return int(number(words[0])), int(number(words[1]))
	case api.FoLow, api.FoIndex:
		return m.entry(op, words), 0
	}
	return int(number(words[0])), 0
}

// entry is the index of what an instruction names in the pool.
func (m *maker) entry(op int, words []string) int {
	tag := api.TagField
	switch opcode.Name(op) {
	case "ldc":
		return m.add(api.Const{Tag: api.TagInt, N: number(words[0])})
	case "ldc2_w":
		return m.add(api.Const{Tag: api.TagLong, N: number(words[0])})
	case "new", "anewarray", "checkcast", "instanceof":
		return m.classEntry(words[0])
	case "invokevirtual", "invokespecial", "invokestatic":
		tag = api.TagMethod
	}
	class, name := split(words[0], ".", "")
	what := m.add(api.Const{Tag: api.TagName, A: m.text(name), B: m.text(words[1])})
	return m.add(api.Const{Tag: tag, A: m.classEntry(class), B: what})
}

func (m *maker) add(c api.Const) int {
	m.t.Helper()
	l, i, e := cpool.Add(m.c.Pool, c)
	m.ok(e, "Add")
	m.c.Pool = l
	return i
}

func (m *maker) text(s string) int { return m.add(api.Const{Tag: api.TagUtf8, Text: s}) }

func (m *maker) classEntry(name string) int {
	return m.add(api.Const{Tag: api.TagClass, A: m.text(name)})
}

func number(s string) int64 {
	n, e := strconv.ParseInt(s, 10, 64)
	if e != nil {
		panic(s)
	}
	return n
}

// linked is the program of classes, and of one Main that has a main.
func linked(t *testing.T, l ...class) api.Program {
	t.Helper()
	l = append(l, class{name: "Main", methods: []meth{{what: "static main ()I", stack: 1, code: "iconst_3 | ireturn"}}})
	var files [][]byte
	for _, x := range l {
		m := &maker{t: t}
		files = append(files, m.make(x))
	}
	p, n, e := linker.Link(files...)
	if e != api.OK {
		t.Fatal("Link", n, e)
	}
	return p
}

// named is the number of a method with a name such as S.f()V.
func named(t *testing.T, p api.Program, name string) int {
	t.Helper()
	for n := range p.Funcs {
		if linker.Name(p, n) == name {
			return n
		}
	}
	t.Fatal("no method", name)
	return 0
}

// numbers tells numbers that look as if they were in no order: the same ones each time.
type numbers uint64

func (r *numbers) below(n int) int {
	*r = *r*6364136223846793005 + 1442695040888963407
	return int(uint64(*r) >> 33 % uint64(n))
}
