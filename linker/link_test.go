package linker_test

import (
	"bytes"
	"slices"
	"strings"
	"testing"

	"tabard/api"
	"tabard/classfile"
	"tabard/linker"
)

// TestExamples is the document's examples.
func TestExamples(t *testing.T) {
	p := linked(t, start())
	if len(p.Funcs) != 1 || !slices.Equal(p.Funcs[0].Ops, []api.Op{{Kind: api.KInt, N: 3}, {At: 1, Kind: api.KReturn, A: api.VInt}}) {
		t.Error(p)
	}
	refused(t, -1, api.ErrMain)
	refused(t, -1, api.ErrMain, of("Main", ""))
}

// TestProgram has what of a program is the layout's.
func TestProgram(t *testing.T) {
	p := linked(t, world()...)
	long, whole, ref := api.Type{Kind: api.TyLong}, api.Type{Kind: api.TyInt}, api.Type{Kind: api.TyRef, Name: "[LA;"}
	if len(p.Classes) != 15 || p.Classes[0].Name != object || p.Classes[0].Super != -1 || !slices.Equal(p.Statics, []api.Type{long, whole}) || p.Main != 0 || len(p.Types) != 0 {
		t.Error(p)
	}
	if k := p.Classes[9]; k.Name != "B" || k.Super != 10 || !slices.Equal(k.Fields, []api.Type{whole, ref, whole}) || !slices.Equal(k.Table, []int{2, 7, 1}) {
		t.Error(k)
	}
	var names []string
	for n := range p.Funcs {
		names = append(names, linker.Name(p, n))
	}
	if want := "Main.main()I B.h()V B.f()V B.<init>(I)V A.f()V A.g(J)V A.<init>()V A.i(LA;I)LA;"; strings.Join(names, " ") != want {
		t.Error(names)
	}
}

// TestFunc has what of a method its file says.
func TestFunc(t *testing.T) {
	type want struct {
		name string
		f    api.Func
	}
	whole, long, a := api.Type{Kind: api.TyInt}, api.Type{Kind: api.TyLong}, api.Type{Kind: api.TyRef, Name: "A"}
	l := []decl{
		of("B:A", "", meth{"static f ()J", 0, 0, "return", nil}, meth{"g ([I)V", 64, 64, "return", nil}, meth{"<init> (J)V", 1, 3, "return", nil}),
		of("A", "", meth{"g ([I)V", 3, 2, "return", nil}, meth{"static s (IJLA;)[J", 1, 63, "return", nil}, meth{"h ()LA;", 7, 5, "return", nil}),
		start(),
	}
	p := linked(t, l...)
	for _, x := range []want{
		{"B.f()J", api.Func{Class: 8, Name: "f", Desc: "()J", Static: true, Ret: long, Slot: -1}},
		{"B.g([I)V", api.Func{Class: 8, Name: "g", Desc: "([I)V", Args: []api.Type{{Kind: api.TyRef, Name: "B"}, {Kind: api.TyRef, Name: "[I"}}, Stack: 64, Locals: 64, Slot: 0}},
		{"B.<init>(J)V", api.Func{Class: 8, Name: "<init>", Desc: "(J)V", Args: []api.Type{{Kind: api.TyRef, Name: "B"}, long}, Stack: 1, Locals: 3, Slot: -1}},
		{"A.g([I)V", api.Func{Class: 9, Name: "g", Desc: "([I)V", Args: []api.Type{a, {Kind: api.TyRef, Name: "[I"}}, Stack: 3, Locals: 2, Slot: 0}},
		{"A.s(IJLA;)[J", api.Func{Class: 9, Name: "s", Desc: "(IJLA;)[J", Static: true, Args: []api.Type{whole, long, a}, Ret: api.Type{Kind: api.TyRef, Name: "[J"}, Stack: 1, Locals: 63, Slot: -1}},
		{"A.h()LA;", api.Func{Class: 9, Name: "h", Desc: "()LA;", Args: []api.Type{a}, Ret: a, Stack: 7, Locals: 5, Slot: 1}},
	} {
		f := called(t, p, x.name)
		x.f.Ops = []api.Op{{Kind: api.KReturn}}
		if !linker.Same(api.Program{Funcs: []api.Func{f}}, api.Program{Funcs: []api.Func{x.f}}) {
			t.Error(x.name, f)
		}
	}
	if p.Main != 6 {
		t.Error(p.Main)
	}
}

// TestCatches has handlers that may be, and such as may not.
func TestCatches(t *testing.T) {
	f := func(handlers ...string) []decl {
		return append(world(fn("static f ()V", "nop; bipush 1; pop; return", handlers...)), of("F:E", ""))
	}
	p := linked(t, f("0 1 3", "1 5 0 E", "0 4 4 "+throwable, "3 4 1 java/lang/ClassCastException", "0 5 4 F", "0 1 3")...)
	want := []api.Catch{{From: 0, To: 1, At: 3, Class: 1}, {From: 1, To: 5, At: 0, Class: 11}, {From: 0, To: 4, At: 4, Class: 1}, {From: 3, To: 4, At: 1, Class: 6}, {From: 0, To: 5, At: 4, Class: 15}, {From: 0, To: 1, At: 3, Class: 1}}
	if l := p.Funcs[0].Catches; !slices.Equal(l, want) {
		t.Error(l)
	}
	for _, name := range []string{"A", "X", object, "Sys", "Main", "I", "java/lang/Throwables", "p/Q"} {
		refused(t, 0, api.ErrCatch, f("0 1 3 "+name)...)
		refused(t, 0, api.ErrCatch, f("0 1 3", "0 1 3 E", "0 1 3 "+name)...)
	}
	// A handler comes ahead of all instructions of its method, but behind those of methods ahead of it.
	refused(t, 0, api.ErrCatch, world(fn("static f ()V", "iload 8; return", "0 2 2 A"))...)
	refused(t, 0, api.ErrLocal, world(fn("static f ()V", "iload 8; return"), fn("static g ()V", "return", "0 1 0 A"))...)
	refused(t, 0, api.ErrCatch, world(fn("static g ()V", "return", "0 1 0 A"), fn("static f ()V", "iload 8; return"))...)
}

// TestFirstEntry has a class as the pool's first entry.
func TestFirstEntry(t *testing.T) {
	c := api.Class{Major: 52, This: 1, Super: 4, Pool: []api.Const{{}, {Tag: api.TagClass, A: 2}, {Tag: api.TagUtf8, Text: "Main"}, {Tag: api.TagUtf8, Text: "Code"}, {Tag: api.TagClass, A: 5}, {Tag: api.TagUtf8, Text: throwable}, {Tag: api.TagUtf8, Text: "main"}, {Tag: api.TagUtf8, Text: "()I"}}}
	c.Methods = []api.Member{{Access: api.AccStatic, Name: 6, Desc: 7, Code: []byte{187, 0, 1, 177}, Handlers: []api.Handler{{From: 0, To: 3, At: 0, Type: 1}, {From: 0, To: 3, At: 0}}}}
	b, e := classfile.Encode(c)
	if e != api.OK {
		t.Fatal(e)
	}
	p, _, e := held(t, b)
	if e != api.OK || p.Funcs[0].Ops[0].A != 8 || !slices.Equal(p.Funcs[0].Catches, []api.Catch{{To: 3, Class: 8}, {To: 3, Class: 1}}) {
		t.Error(p, e)
	}
}

// TestMain has mains that are none.
func TestMain(t *testing.T) {
	f := fn("static main ()I", "iconst_3; ireturn")
	for _, l := range [][]decl{
		{}, {of("A", "", f)}, {of("main", "", f)}, {of("a/Main", "", f)}, {of("Main", "")}, {of("Main", "", fn("main ()I", "iconst_3; ireturn"))}, {of("Main", "", fn("static main ()V", "return"))}, {of("Main", "", fn("static main ()J", "return"))}, {of("Main", "", fn("static Main ()I", "return"))}, {of("Main", "", fn("static main (I)I", "return"))}, {of("Main", "main I", fn("static main ()LI;", "return"))},
		// One that is inherited, and one of a class under it.
		{of("Main:A", ""), of("A", "", f)}, {of("A:Main", "", f), of("Main", "")},
	} {
		refused(t, -1, api.ErrMain, l...)
	}
	for _, x := range []struct {
		l    []decl
		main int
	}{
		{[]decl{of("Main:A", "", f), of("A", "", f)}, 0}, {[]decl{of("A", "", f), of("Main:A", "", f)}, 1}, {[]decl{of("A:Main", "", f), of("Main", "", fn("static main ()V", "return"), fn("main (I)I", "return"), f)}, 3}, {[]decl{of("Main:"+throwable, "static main I", f)}, 0},
	} {
		if p := linked(t, x.l...); p.Main != x.main {
			t.Error(x.l, p.Main)
		}
	}
}

// TestFirst has two things each that may not be: the one that the document names first is told, wherever they stand.
func TestFirst(t *testing.T) {
	ring := []decl{of("R:S", ""), of("S:R", "")}
	unlike := []decl{of("U", "", fn("f ()V", "return")), of("V:U", "", fn("static f ()V", "return"))}
	faults := []struct {
		l   []decl
		at  int // which of l; -1: none
		e   api.Errno
		cut bool // the last byte is missing
	}{
		{[]decl{of("D", "")}, 0, api.ErrEnds, true},
		{[]decl{of("N", ""), of("N", "")}, -1, api.ErrName, false},
		{[]decl{of("P:X", "")}, -1, api.ErrSuper, false},
		{ring, -1, api.ErrCycle, false},
		{[]decl{of("Sys", "")}, -1, api.ErrMain, false},
		{unlike, -1, api.ErrAlike, false},
		{[]decl{of("W", "", fn("f ()V", "new X; return"))}, 0, api.ErrResolve, false},
		{nil, -1, api.ErrMain, false},
	}
	bytesOf := func(i int) [][]byte {
		l := files(t, faults[i].l...)
		if faults[i].cut {
			l[0] = l[0][:len(l[0])-1]
		}
		return l
	}
	ok := files(t, of("O", "x I", fn("<init> ()V", "return")))
	main := files(t, start())
	for i, x := range faults {
		for k := range faults {
			if k == i {
				continue
			}
			mine, others := bytesOf(i), append(bytesOf(k), ok...)
			if i != len(faults)-1 && k != len(faults)-1 {
				others = append(others, main...)
			}
			for _, ahead := range []bool{true, false} {
				l, at := append(slices.Clone(mine), others...), x.at
				if !ahead {
					l = append(slices.Clone(others), mine...)
					if at >= 0 {
						at += len(others)
					}
				}
				_, n, e := held(t, l...)
				if i < k && (n != at || e != x.e) {
					t.Error(i, k, ahead, n, e, "not", at, x.e)
				}
			}
		}
	}
}

// TestFirstFile has faults in several files, methods and instructions.
func TestFirstFile(t *testing.T) {
	f := func(code string) meth { return fn("static f ()V", code+"; return") }
	refused(t, 0, api.ErrLocal, of("A", "", f("iload 8")), of("B", "", f("new X")))
	refused(t, 1, api.ErrLocal, of("C", "", f("nop")), of("A", "", f("iload 8")), of("B", "", f("new X")))
	refused(t, 0, api.ErrResolve, of("B:A", "", f("new X")), of("A", "", f("iload 8")))
	refused(t, 0, api.ErrConst, of("A", "", f("nop; nop; ldc text: x; iload 8; new X")))
	refused(t, 0, api.ErrStatic, of("A", "x I", f("nop"), fn("g ()V", "getstatic A.x I; return"), fn("h ()V", "new X; return")))
	good := file(t, start())
	for _, x := range []struct {
		l [][]byte
		n int
		e api.Errno
	}{
		{[][]byte{nil}, 0, api.ErrEnds}, {[][]byte{good, nil}, 1, api.ErrEnds}, {[][]byte{good, good, {1, 2, 3, 4}}, 2, api.ErrMagic}, {[][]byte{good, good}, -1, api.ErrName}, {[][]byte{append(slices.Clone(good), 0), nil}, 0, api.ErrLeft}, {[][]byte{make([]byte, 1<<16+1)}, 0, api.ErrLong}, {[][]byte{nil, make([]byte, 1<<16+1)}, 0, api.ErrEnds},
		{[][]byte{bytes.Replace(good, []byte{0, 0, 0, 52}, []byte{0, 0, 0, 53}, 1)}, 0, api.ErrVersion}, {[][]byte{{}, {}}, 0, api.ErrEnds},
	} {
		if _, n, e := held(t, x.l...); n != x.n || e != x.e {
			t.Error(n, e, "not", x.n, x.e)
		}
	}
	if _, n, e := held(t); n != -1 || e != api.ErrMain {
		t.Error(n, e)
	}
}

// TestTypes stand in the order in which operations name them, each once.
func TestTypes(t *testing.T) {
	p := linked(t,
		of("B", "z [[LB;", fn("f ([[[I)[[[[J", "checkcast [LMain;; newarray 11; return"), fn("static g ()V", "instanceof B; newarray 11; anewarray [LMain;; return")),
		of("Main", "", fn("static main ()I", "newarray 10; anewarray Main; checkcast B; new A; instanceof [[LMain;; return")),
		of("A", "", fn("static g ()V", "checkcast A; checkcast [J; return")))
	var names []string
	for _, x := range p.Types {
		names = append(names, x.Name)
		if x.Kind != api.TyRef {
			t.Error(x)
		}
	}
	if strings.Join(names, " ") != "[LMain; [J B [[LMain; [I A" {
		t.Error(names)
	}
}

// TestNobodysElse writes to the files, and to one program's lists, and looks at what another one has.
func TestNobodysElse(t *testing.T) {
	l := files(t, world(fn("f (I[J)V", "new A; checkcast A; newarray 10; ldc2_w 7; return", "0 3 3 E", "0 3 3"))...)
	p, _, _ := linker.Link(l...)
	q, _, _ := linker.Link(l...)
	for _, b := range l {
		clear(b)
	}
	if !linker.Same(p, q) {
		t.Error("kept")
	}
	for _, x := range leaves(&q) {
		spoil(x)
	}
	again, _, e := linker.Link(files(t, world(fn("f (I[J)V", "new A; checkcast A; newarray 10; ldc2_w 7; return", "0 3 3 E", "0 3 3"))...)...)
	if e != api.OK || !linker.Same(p, again) {
		t.Error("not the program's own", e)
	}
	// Each list of an answer stands by itself: what is put behind one is in no other.
	for n := range p.Funcs {
		f := p.Funcs[n]
		_, _, _ = append(f.Ops, api.Op{Kind: 99}), append(f.Args, api.Type{Kind: 99}), append(f.Catches, api.Catch{Class: 99})
	}
	for n := range p.Classes {
		k := p.Classes[n]
		_, _ = append(k.Fields, api.Type{Kind: 99}), append(k.Table, 99)
	}
	if !linker.Same(p, again) {
		t.Error("shared")
	}
}

// TestReadme is what README.md shows.
func TestReadme(t *testing.T) {
	c, _ := classfile.New("Main", "java/lang/Object")
	c, _ = classfile.WithMethod(c, "main", "()I", api.Member{Access: api.AccStatic, Stack: 1, Locals: 1, Code: []byte{8, 59, 132, 0, 255, 26, 154, 255, 252, 26, 172}})
	b, e := classfile.Encode(c)
	if e != api.OK {
		t.Fatal(e)
	}
	p, n, e := linker.Link(b)
	if e != api.OK || n != 0 {
		t.Fatal(n, e)
	}
	f := p.Funcs[p.Main]
	if s := linker.Name(p, p.Main); s != "Main.main()I" {
		t.Error(s)
	}
	if f.Ops[4] != (api.Op{At: 6, Kind: api.KIf, A: api.CondNe, To: 2}) {
		t.Error(f.Ops)
	}
	if i, is := linker.Op(f, 6); i != 4 || !is {
		t.Error(i, is)
	}
	if l := linker.Next(f, 4); !slices.Equal(l, []int{2, 5}) {
		t.Error(l)
	}
	for k := range linker.Covers(f, 4) {
		t.Error(k)
	}
	if m, is := linker.Find(p, "Main", "main", "()I"); m != 0 || !is || !linker.Same(p, linker.Clone(p)) {
		t.Error(m, is)
	}
	if _, n, e := linker.Link(b, b); n != -1 || e != api.ErrName {
		t.Error(n, e)
	}
}

// TestClasses has as many classes as may be, in a chain, and more.
func TestClasses(t *testing.T) {
	l := []decl{start()}
	for n := range 64 {
		name := "C" + string(rune('0'+n/10)) + string(rune('0'+n%10))
		l = append(l, of(name+":"+l[n].name(), "", fn("f ()V", "new "+l[n].name()+"; return")))
	}
	if p := linked(t, l[:64]...); len(p.Classes) != 72 || p.Funcs[63].Ops[0].A != 70 {
		t.Error(len(p.Classes))
	}
	refused(t, -1, api.ErrLong, l...)
	// A file that is none comes ahead of that.
	all := append(files(t, l...), nil)
	if _, n, e := held(t, all...); n != 65 || e != api.ErrEnds {
		t.Error(n, e)
	}
}

// TestFull has a chain of classes whose files are as long as may be; each names, over and over, what stands on top of the chain, by the longest names.
func TestFull(t *testing.T) {
	long := strings.Repeat("x", 240)
	top := class(of("Top", long+" I, static "+long+" J", fn(long+" ()V", "return"), fn("static main ()I", "return")))
	all := []api.Class{top}
	for n := range 63 {
		name := "C" + string(rune('0'+n/10)) + string(rune('0'+n%10))
		super := "Top"
		if n > 0 {
			super, _ = classfile.This(all[n])
		}
		if n == 62 {
			name = "Main"
		}
		d := of(name+":"+super, "", fn("static main ()I", "getfield "+name+"."+long+" I; putstatic "+name+"."+long+" J; invokevirtual "+name+"."+long+" ()V; anewarray "+name))
		c := class(d)
		m := c.Methods[0]
		m.Code = slices.Repeat(m.Code, 341)
		m.Access = api.AccStatic
		c.Methods[0] = m
		for k := range 14 {
			m.Name = len(c.Pool)
			c.Pool = append(c.Pool, api.Const{Tag: api.TagUtf8, Text: "m" + string(rune('a'+k))})
			c.Methods = append(c.Methods, m)
		}
		all = append(all, c)
	}
	var l [][]byte
	for _, c := range all {
		b, e := classfile.Encode(c)
		if e != api.OK {
			t.Fatal(e)
		}
		l = append(l, b)
	}
	p, n, e := linker.Link(l...)
	if e != api.OK || n != 0 || len(p.Funcs) != 2+63*15 || len(p.Types) != 63 {
		t.Fatal(n, e, len(p.Funcs), len(p.Types))
	}
	sound(t, p)
	for n, f := range p.Funcs[2:] {
		c := n / 15
		for i, op := range f.Ops {
			want := []api.Op{{Kind: api.KGetField, N: int64(9 + c)}, {Kind: api.KPutStat}, {Kind: api.KCallVirt}, {Kind: api.KNewArr, A: c}}[i%4]
			want.At = 3 * i
			if op != want {
				t.Fatal(n, i, op, want)
			}
		}
	}
}
