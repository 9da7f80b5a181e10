package sample

import (
	"strconv"
	"strings"

	"tabard/api"
	"tabard/classfile"
	"tabard/cpool"
	"tabard/opcode"
)

// maker is a class while its file is made.
type maker struct{ made api.Class }

// ok stops a test that has a text wrong.
func ok(e api.Errno, what string) {
	if e != api.OK {
		panic(what + ": " + strconv.Itoa(int(e)))
	}
}

// File is a class's file.
func (x Class) File() []byte {
	m := &maker{}
	var e api.Errno
	name, super, is := strings.Cut(x.Name, ":")
	if !is {
		super = Object
	}
	m.made, e = classfile.New(name, super)
	ok(e, x.Name)
	for _, s := range x.Fields {
		access, name, desc := Member(s)
		m.made, e = classfile.WithField(m.made, access, name, desc)
		ok(e, s)
	}
	for _, f := range x.Methods {
		m.method(f)
	}
	b, e := classfile.Encode(m.made)
	ok(e, x.Name)
	return b
}

func (m *maker) method(f Method) {
	access, name, desc := Member(f.What)
	code, labels := m.code(f.Code)
	body := api.Member{Access: access, Stack: f.Stack, Locals: f.Locals, Code: code}
	for _, s := range f.Handlers {
		body.Handlers = append(body.Handlers, m.handler(s, labels))
	}
	var e api.Errno
	m.made, e = classfile.WithMethod(m.made, name, desc, body)
	ok(e, f.What)
}

func (m *maker) handler(s string, labels map[string]int) api.Handler {
	w := strings.Fields(s)
	h := api.Handler{From: address(w[0], labels), To: address(w[1], labels), At: address(w[2], labels)}
	if len(w) > 3 {
		h.Type = m.class(w[3])
	}
	return h
}

// address is where a label stands.
func address(label string, labels map[string]int) int {
	at, is := labels[label]
	if !is {
		panic("no label " + label)
	}
	return at
}

// code is instructions' bytes, and the labels' addresses. These are found first, as jumps may go to later ones.
func (m *maker) code(s string) ([]byte, map[string]int) {
	var l []api.Instr
	var words [][]string
	labels, at := map[string]int{}, 0
	for text := range strings.SplitSeq(s, " | ") {
		for label, rest, is := strings.Cut(text, ": "); is; label, rest, is = strings.Cut(text, ": ") {
			labels[label], text = at, rest
		}
		w := strings.Fields(text)
		op, is := opcode.Find(w[0])
		if !is {
			panic("no instruction " + text)
		}
		l, words = append(l, api.Instr{At: at, Op: op}), append(words, w[1:])
		size, _ := opcode.Size(op)
		at += size
	}
	labels["end"] = at
	for i, w := range words {
		if len(w) > 0 {
			l[i].A, l[i].B = m.operands(l[i].Op, w, labels)
		}
	}
	b, e := opcode.Encode(l...)
	ok(e, s)
	return b, labels
}

// operands are what stands behind an instruction's name.
func (m *maker) operands(op int, words []string, labels map[string]int) (int, int) {
	switch form, _ := opcode.Form(op); form {
	case api.FoJump:
		return address(words[0], labels), 0
	case api.FoInc:
		return int(number(words[0])), int(number(words[1]))
	case api.FoLow, api.FoIndex:
		return m.entry(op, words), 0
	}
	return int(number(words[0])), 0
}

// entry is the index of what an instruction names in the pool.
func (m *maker) entry(op int, words []string) int {
	switch opcode.Name(op) {
	case "ldc":
		return m.add(api.Const{Tag: api.TagInt, N: number(words[0])})
	case "ldc2_w":
		return m.add(api.Const{Tag: api.TagLong, N: number(words[0])})
	case "new", "anewarray", "checkcast", "instanceof":
		return m.class(words[0])
	case "invokevirtual", "invokespecial", "invokestatic":
		return m.member(api.TagMethod, words)
	}
	return m.member(api.TagField, words)
}

// member is the index of a member's entry: its class and its name with a point between, and its descriptor.
func (m *maker) member(tag int, words []string) int {
	class, name, _ := strings.Cut(words[0], ".")
	what := m.add(api.Const{Tag: api.TagName, A: m.text(name), B: m.text(words[1])})
	return m.add(api.Const{Tag: tag, A: m.class(class), B: what})
}

func (m *maker) add(c api.Const) int {
	l, i, e := cpool.Add(m.made.Pool, c)
	ok(e, "the pool")
	m.made.Pool = l
	return i
}

func (m *maker) text(s string) int { return m.add(api.Const{Tag: api.TagUtf8, Text: s}) }

func (m *maker) class(name string) int {
	return m.add(api.Const{Tag: api.TagClass, A: m.text(name)})
}

func number(s string) int64 {
	n, e := strconv.ParseInt(s, 10, 64)
	if e != nil {
		panic("no number " + s)
	}
	return n
}
