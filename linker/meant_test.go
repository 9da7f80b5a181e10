package linker_test

import (
	"bytes"
	"reflect"
	"slices"
	"strings"
	"testing"

	"tabard/api"
	"tabard/classfile"
	"tabard/cpool"
	"tabard/desc"
	"tabard/hier"
	"tabard/layout"
	"tabard/linker"
	"tabard/opcode"
)

// What the document says, kept the plainest way: instructions by their names, and nothing is remembered but Types.

// held links files, and holds what comes of it against what is meant.
func held(t *testing.T, files ...[]byte) (api.Program, int, api.Errno) {
	t.Helper()
	var kept [][]byte
	for _, b := range files {
		kept = append(kept, slices.Clone(b))
	}
	want, at, fault := meantLink(files)
	p, n, e := linker.Link(files...)
	if n != at || e != fault || !alike(p, want) {
		t.Error("Link", n, e, "not", at, fault)
	}
	if e != api.OK && !reflect.DeepEqual(p, api.Program{}) {
		t.Error("beside an error", p)
	}
	if again, k, f := linker.Link(files...); k != n || f != e || !alike(p, again) {
		t.Error("not again", k, f)
	}
	if !slices.EqualFunc(files, kept, bytes.Equal) {
		t.Error("written to")
	}
	if e == api.OK {
		sound(t, p)
	}
	return p, n, e
}

// alike is field by field, empty and nil lists the same.
func alike(a, b api.Program) bool {
	return reflect.DeepEqual(bare(reflect.ValueOf(a)), bare(reflect.ValueOf(b)))
}

// bare is all of a value as plain lists, none of them nil.
func bare(v reflect.Value) any {
	l := []any{}
	switch v.Kind() {
	case reflect.Slice:
		for i := range v.Len() {
			l = append(l, bare(v.Index(i)))
		}
	case reflect.Struct:
		for i := range v.NumField() {
			l = append(l, bare(v.Field(i)))
		}
	default:
		return v.Interface()
	}
	return l
}

// meant is a program while it is linked.
type meant struct {
	h       *hier.Hier
	l       *layout.Layout
	classes []api.Class
	types   []api.Type
}

func meantLink(files [][]byte) (api.Program, int, api.Errno) {
	m := &meant{}
	var lines []api.Line
	for i, b := range files {
		c, e := classfile.Decode(b)
		if e != api.OK {
			return api.Program{}, i, e
		}
		this, _ := classfile.This(c)
		super, _ := classfile.Super(c)
		lines = append(lines, api.Line{Name: this, Super: super})
		m.classes = append(m.classes, c)
	}
	var e api.Errno
	if m.h, e = hier.New(lines...); e != api.OK {
		return api.Program{}, -1, e
	}
	if slices.ContainsFunc(lines, func(x api.Line) bool { return x.Name == "Sys" }) {
		return api.Program{}, -1, api.ErrMain
	}
	if m.l, e = layout.New(m.h, m.classes...); e != api.OK {
		return api.Program{}, -1, e
	}
	p := api.Program{Classes: m.l.Klasses(), Statics: m.l.Statics(), Main: -1}
	for number := range m.l.Funcs() {
		s, _ := m.l.Func(number)
		f, e := m.method(s)
		if e != api.OK {
			return api.Program{}, s.Class - 8, e
		}
		if lines[s.Class-8].Name == "Main" && f.Name == "main" && f.Desc == "()I" && f.Static {
			p.Main = number
		}
		p.Funcs = append(p.Funcs, f)
	}
	if p.Main < 0 {
		return api.Program{}, -1, api.ErrMain
	}
	p.Types = m.types
	return p, 0, api.OK
}

func (m *meant) method(s api.Spot) (api.Func, api.Errno) {
	c := m.classes[s.Class-8]
	x := c.Methods[s.Method]
	n, _ := classfile.Member(c, x)
	f := api.Func{Class: s.Class, Name: n.Name, Desc: n.Desc, Static: m.static(s), Stack: x.Stack, Locals: x.Locals, Slot: m.l.Slot(s.Number)}
	args, ret, _ := desc.Method(n.Desc)
	if !f.Static {
		f.Args = append(f.Args, api.Type{Kind: api.TyRef, Name: m.h.Name(s.Class)})
	}
	f.Args, f.Ret = append(f.Args, args...), ret
	for _, h := range x.Handlers {
		k := api.Catch{From: h.From, To: h.To, At: h.At, Class: 1}
		if h.Type != 0 {
			name, _ := cpool.Class(c.Pool, h.Type)
			n, is := m.h.Find(name)
			if !is || !m.h.Under(n, 1) {
				return api.Func{}, api.ErrCatch
			}
			k.Class = n
		}
		f.Catches = append(f.Catches, k)
	}
	for at, i := range opcode.Walk(x.Code) {
		op, e := m.op(c.Pool, x.Locals, i)
		if e != api.OK {
			return api.Func{}, e
		}
		op.At = at
		f.Ops = append(f.Ops, op)
	}
	return f, api.OK
}

func (m *meant) static(s api.Spot) bool {
	return m.classes[s.Class-8].Methods[s.Method].Access&8 != 0
}

var plain = map[string]api.Op{
	"nop": {Kind: api.KNop}, "aconst_null": {Kind: api.KNull}, "iaload": {Kind: api.KIALoad}, "laload": {Kind: api.KLALoad}, "aaload": {Kind: api.KAALoad}, "iastore": {Kind: api.KIAStore}, "lastore": {Kind: api.KLAStore}, "aastore": {Kind: api.KAAStore},
	"pop": {Kind: api.KPop}, "dup": {Kind: api.KDup}, "dup_x1": {Kind: api.KDupX1}, "swap": {Kind: api.KSwap}, "ineg": {Kind: api.KINeg}, "lneg": {Kind: api.KLNeg}, "i2l": {Kind: api.KI2L}, "l2i": {Kind: api.KL2I}, "lcmp": {Kind: api.KLCmp},
	"i2b": {Kind: api.KNarrow, A: api.NarByte}, "i2c": {Kind: api.KNarrow, A: api.NarChar}, "i2s": {Kind: api.KNarrow, A: api.NarShort},
	"ireturn": {Kind: api.KReturn, A: api.VInt}, "lreturn": {Kind: api.KReturn, A: api.VLong}, "areturn": {Kind: api.KReturn, A: api.VRef}, "return": {Kind: api.KReturn},
	"arraylength": {Kind: api.KLength}, "athrow": {Kind: api.KThrow},
}

var (
	binaries   = map[string]int{"add": api.BinAdd, "sub": api.BinSub, "mul": api.BinMul, "div": api.BinDiv, "rem": api.BinRem, "and": api.BinAnd, "or": api.BinOr, "xor": api.BinXor}
	shifts     = map[string]int{"shl": api.BinShl, "shr": api.BinShr, "ushr": api.BinUshr}
	conditions = map[string]int{"eq": api.CondEq, "ne": api.CondNe, "lt": api.CondLt, "ge": api.CondGe, "gt": api.CondGt, "le": api.CondLe}
	locals     = map[string]int{"iload": api.KILoad, "lload": api.KLLoad, "aload": api.KALoad, "istore": api.KIStore, "lstore": api.KLStore, "astore": api.KAStore}
)

func (m *meant) op(pool []api.Const, most int, x api.Instr) (api.Op, api.Errno) {
	name := opcode.Name(x.Op)
	if op, is := plain[name]; is {
		return op, api.OK
	}
	if kind, is := binaries[name[1:]]; is {
		return api.Op{Kind: map[byte]int{'i': api.KI2, 'l': api.KL2}[name[0]], A: kind}, api.OK
	}
	if kind, is := shifts[name[1:]]; is {
		return api.Op{Kind: map[byte]int{'i': api.KIShift, 'l': api.KLShift}[name[0]], A: kind}, api.OK
	}
	for kind, ahead := range map[int]string{api.KIf: "if", api.KIfI: "if_icmp", api.KIfA: "if_acmp"} {
		if cond, is := conditions[strings.TrimPrefix(name, ahead)]; is && strings.HasPrefix(name, ahead) {
			return api.Op{Kind: kind, A: cond, To: x.A}, api.OK
		}
	}
	local, behind, short := strings.Cut(name, "_")
	if kind, is := locals[local]; is {
		op := api.Op{Kind: kind, A: x.A}
		if short {
			op.A = number(behind)
		}
		if op.A >= most || name[0] == 'l' && op.A+1 >= most {
			return api.Op{}, api.ErrLocal
		}
		return op, api.OK
	}
	switch name {
	case "iconst_m1":
		return api.Op{Kind: api.KInt, N: -1}, api.OK
	case "bipush", "sipush":
		return api.Op{Kind: api.KInt, N: int64(x.A)}, api.OK
	case "ifnull":
		return api.Op{Kind: api.KIfNull, A: api.CondEq, To: x.A}, api.OK
	case "ifnonnull":
		return api.Op{Kind: api.KIfNull, A: api.CondNe, To: x.A}, api.OK
	case "goto":
		return api.Op{Kind: api.KGoto, To: x.A}, api.OK
	case "iinc":
		if x.A >= most {
			return api.Op{}, api.ErrLocal
		}
		return api.Op{Kind: api.KIInc, A: x.A, N: int64(x.B)}, api.OK
	}
	switch local {
	case "iconst":
		return api.Op{Kind: api.KInt, N: long(behind)}, api.OK
	case "lconst":
		return api.Op{Kind: api.KLong, N: long(behind)}, api.OK
	case "ldc", "ldc2":
		return constant(pool, x)
	}
	return m.named(pool, name, x)
}

func constant(pool []api.Const, x api.Instr) (api.Op, api.Errno) {
	op, tag := api.Op{Kind: api.KInt}, api.TagInt
	if opcode.Name(x.Op) == "ldc2_w" {
		op, tag = api.Op{Kind: api.KLong}, api.TagLong
	}
	if x.A >= len(pool) || pool[x.A].Tag != tag {
		return api.Op{}, api.ErrConst
	}
	op.N = pool[x.A].N
	return op, api.OK
}

func (m *meant) named(pool []api.Const, name string, x api.Instr) (api.Op, api.Errno) {
	switch name {
	case "getstatic", "putstatic", "getfield", "putfield":
		return m.field(pool, name, x.A)
	case "invokestatic", "invokespecial", "invokevirtual":
		return m.call(pool, name, x.A)
	case "newarray":
		return api.Op{Kind: api.KNewArr, A: m.typ(api.Type{Kind: api.TyRef, Name: map[int]string{10: "[I", 11: "[J"}[x.A]})}, api.OK
	}
	s, e := cpool.Class(pool, x.A)
	if e != api.OK {
		return api.Op{}, api.ErrResolve
	}
	if name == "new" {
		if n, is := m.h.Find(s); is {
			return api.Op{Kind: api.KNew, A: n}, api.OK
		}
		return api.Op{}, api.ErrResolve
	}
	t, e := desc.Class(s)
	if e == api.OK && name == "anewarray" {
		t, e = desc.Array(t)
	}
	if e != api.OK || strings.Count(t.Name, "[") > 16 || !m.has(t) {
		return api.Op{}, api.ErrResolve
	}
	kinds := map[string]int{"anewarray": api.KNewArr, "checkcast": api.KCast, "instanceof": api.KIs}
	return api.Op{Kind: kinds[name], A: m.typ(t)}, api.OK
}

// has tells whether the hierarchy has a class, or the class of an array's elements.
func (m *meant) has(t api.Type) bool {
	for strings.HasPrefix(t.Name, "[") {
		t, _ = desc.Elem(t)
	}
	_, is := m.h.Find(t.Name)
	return is || t.Kind != api.TyRef
}

func (m *meant) typ(t api.Type) int {
	if !slices.Contains(m.types, t) {
		m.types = append(m.types, t)
	}
	return slices.Index(m.types, t)
}

func (m *meant) field(pool []api.Const, name string, i int) (api.Op, api.Errno) {
	r, e := cpool.Ref(pool, i, api.TagField)
	n, is := m.h.Find(r.Class)
	p, there := m.l.Field(n, r.Name, r.Desc)
	if e != api.OK || !is || !there {
		return api.Op{}, api.ErrResolve
	}
	if p.Static != strings.HasSuffix(name, "static") {
		return api.Op{}, api.ErrStatic
	}
	op := api.Op{Kind: map[string]int{"getstatic": api.KGetStat, "putstatic": api.KPutStat, "getfield": api.KGetField, "putfield": api.KPutField}[name], A: p.N}
	if !p.Static {
		op.N = int64(n)
	}
	return op, api.OK
}

func (m *meant) call(pool []api.Const, name string, i int) (api.Op, api.Errno) {
	r, e := cpool.Ref(pool, i, api.TagMethod)
	if e != api.OK {
		return api.Op{}, api.ErrResolve
	}
	if r.Class == "Sys" {
		kind := map[string]int{"out(I)V": api.KOut, "outl(J)V": api.KOutL, "in()I": api.KIn}[r.Name+r.Desc]
		if kind == 0 {
			return api.Op{}, api.ErrResolve
		}
		if name != "invokestatic" {
			return api.Op{}, api.ErrStatic
		}
		return api.Op{Kind: kind}, api.OK
	}
	n, is := m.h.Find(r.Class)
	if !is {
		return api.Op{}, api.ErrResolve
	}
	if name == "invokespecial" && r.Name == "<init>" && r.Desc == "()V" && n < 8 {
		return api.Op{Kind: api.KPop}, api.OK
	}
	s, is := m.l.Method(n, r.Name, r.Desc)
	if !is {
		return api.Op{}, api.ErrResolve
	}
	if m.static(s) != (name == "invokestatic") || r.Name == "<init>" && name != "invokespecial" {
		return api.Op{}, api.ErrStatic
	}
	return api.Op{Kind: map[string]int{"invokestatic": api.KCallStat, "invokespecial": api.KCallSpec, "invokevirtual": api.KCallVirt}[name], A: s.Number}, api.OK
}

// sound is P9.5: every number names something.
func sound(t *testing.T, p api.Program) {
	t.Helper()
	below := func(n, most int) {
		t.Helper()
		if n < 0 || n >= most {
			t.Error("names nothing", n, most)
		}
	}
	below(p.Main, len(p.Funcs))
	for n, k := range p.Classes {
		if k.Super < 0 != (n == 0) {
			t.Error("super", n, k.Super)
		}
		below(k.Super+1, len(p.Classes)+1)
		for slot, f := range k.Table {
			below(f, len(p.Funcs))
			if p.Funcs[f].Slot != slot {
				t.Error("slot", n, slot, f)
			}
		}
	}
	for _, f := range p.Funcs {
		below(f.Class, len(p.Classes))
		below(f.Slot+1, len(p.Classes[f.Class].Table)+1)
		begins := map[int]bool{}
		for _, op := range f.Ops {
			begins[op.At] = true
		}
		last := f.Ops[len(f.Ops)-1].At
		for _, c := range f.Catches {
			below(c.Class, len(p.Classes))
			if !begins[c.From] || !begins[c.At] || !begins[c.To] && c.To <= last {
				t.Error("catch", c)
			}
		}
		for _, op := range f.Ops {
			soundOp(t, p, f, op, begins, below)
		}
	}
}

func soundOp(t *testing.T, p api.Program, f api.Func, op api.Op, begins map[int]bool, below func(n, most int)) {
	t.Helper()
	switch op.Kind {
	case api.KILoad, api.KALoad, api.KIStore, api.KAStore, api.KIInc:
		below(op.A, f.Locals)
	case api.KLLoad, api.KLStore:
		below(op.A, f.Locals-1)
	case api.KIf, api.KIfI, api.KIfA, api.KIfNull, api.KGoto:
		if !begins[op.To] {
			t.Error("jump", op)
		}
	case api.KGetStat, api.KPutStat:
		below(op.A, len(p.Statics))
	case api.KGetField, api.KPutField:
		below(int(op.N), len(p.Classes))
		below(op.A, len(p.Classes[op.N].Fields))
	case api.KCallStat, api.KCallSpec, api.KCallVirt:
		below(op.A, len(p.Funcs))
		if g := p.Funcs[op.A]; g.Static != (op.Kind == api.KCallStat) || op.Kind == api.KCallVirt && g.Slot < 0 {
			t.Error("call", op, g)
		}
	case api.KNew:
		below(op.A, len(p.Classes))
	case api.KNewArr, api.KCast, api.KIs:
		below(op.A, len(p.Types))
	}
}
