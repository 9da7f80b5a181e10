package linker_test

import (
	"math"
	"slices"
	"testing"

	"tabard/api"
	"tabard/linker"
)

// far are numbers far beside all places; some would be such if they were cut.
func far() []int {
	return []int{math.MinInt, math.MinInt + 1, -1 << 32, math.MinInt32, -2, -1, 1 << 16, math.MaxInt32, 1 << 32, 1<<32 + 1, math.MaxInt - 1, math.MaxInt}
}

// meantOp, meantNext and meantCovers are what the document says of any method.
func meantOp(f api.Func, at int) (int, bool) {
	i := slices.IndexFunc(f.Ops, func(x api.Op) bool { return x.At == at })
	return max(i, 0), i >= 0
}

func meantNext(f api.Func, i int) []int {
	var l []int
	for k := range f.Ops {
		if i < 0 || i >= len(f.Ops) {
			break
		}
		kind := f.Ops[i].Kind
		behind := k == i+1 && !slices.Contains([]int{36, 37, 48}, kind)
		to, is := meantOp(f, f.Ops[i].To)
		if behind || slices.Contains([]int{32, 33, 34, 35, 36}, kind) && is && to == k {
			l = append(l, k)
		}
	}
	return l
}

func meantCovers(f api.Func, i int) []api.Catch {
	var l []api.Catch
	for _, c := range f.Catches {
		if i >= 0 && i < len(f.Ops) && c.From <= f.Ops[i].At && f.Ops[i].At < c.To {
			l = append(l, c)
		}
	}
	return l
}

// holdFunc asks all of a method.
func holdFunc(t *testing.T, f api.Func) {
	t.Helper()
	kept := linker.Clone(api.Program{Funcs: []api.Func{f}})
	places := far()
	for i := range len(f.Ops) + 2 {
		places = append(places, i)
	}
	for _, i := range places {
		if got := linker.Next(f, i); !slices.Equal(got, meantNext(f, i)) {
			t.Error("Next", f.Ops, i, got)
		}
		if got := slices.Collect(linker.Covers(f, i)); !slices.Equal(got, meantCovers(f, i)) {
			t.Error("Covers", f, i, got)
		}
	}
	ats := append(places, -5)
	for _, x := range f.Ops {
		ats = append(ats, x.At, x.At+1, x.To)
	}
	for _, at := range ats {
		got, is := linker.Op(f, at)
		if want, yes := meantOp(f, at); got != want || is != yes {
			t.Error("Op", f.Ops, at, got, is)
		}
	}
	if !linker.Same(kept, api.Program{Funcs: []api.Func{f}}) {
		t.Error("written to", f)
	}
}

// TestAsked has a method of a program.
func TestAsked(t *testing.T) {
	p := linked(t, world(fn("static f ()V", "nop; ifeq 10; bipush 1; goto 1; nop; ifnull 9; aconst_null; athrow; if_icmplt 15; return; if_acmpne 22; return",
		"0 4 9", "1 9 0 E", "19 23 0", "0 23 0 java/lang/ClassCastException", "10 13 10"))...)
	f := p.Funcs[0]
	holdFunc(t, f)
	l := f.Catches
	for i, x := range []struct {
		at     int
		next   []int
		covers []api.Catch
	}{
		{0, []int{1}, []api.Catch{l[0], l[3]}}, {1, []int{2, 5}, []api.Catch{l[0], l[1], l[3]}}, {4, []int{3}, []api.Catch{l[1], l[3]}}, {6, []int{1}, []api.Catch{l[1], l[3]}}, {9, []int{5}, l[3:4]}, {10, []int{4, 6}, l[3:5]},
		{13, []int{7}, l[3:4]}, {14, nil, l[3:4]}, {15, []int{8, 9}, l[3:4]}, {18, nil, l[3:4]}, {19, []int{11}, l[2:4]}, {22, nil, l[2:4]},
	} {
		if got := linker.Next(f, i); !slices.Equal(got, x.next) {
			t.Error("Next", i, got)
		}
		if got := slices.Collect(linker.Covers(f, i)); !slices.Equal(got, x.covers) {
			t.Error("Covers", i, got)
		}
		if k, is := linker.Op(f, x.at); k != i || !is {
			t.Error("Op", x.at, k, is)
		}
	}
	for _, at := range []int{-1, 2, 3, 5, 7, 8, 11, 16, 21, 23, 24} {
		if k, is := linker.Op(f, at); k != 0 || is {
			t.Error("Op", at, k, is)
		}
	}
}

// TestAskedOfAny has methods that no link made: addresses twice and in any order, jumps to nowhere, kinds that are none.
func TestAskedOfAny(t *testing.T) {
	holdFunc(t, api.Func{})
	r := numbers(3)
	for range 3000 {
		var f api.Func
		for range r.below(7) {
			f.Ops = append(f.Ops, api.Op{At: r.below(6) - 1, Kind: []int{0, 1, 31, 32, 33, 34, 35, 36, 37, 38, 48, 49, 99, -36}[r.below(14)], To: r.below(7) - 1})
		}
		for range r.below(4) {
			f.Catches = append(f.Catches, api.Catch{From: r.below(7) - 1, To: r.below(8) - 1, At: r.below(6), Class: r.below(3)})
		}
		if r.below(9) == 0 && len(f.Ops) > 0 {
			f.Ops[0].At, f.Ops[len(f.Ops)-1].To = math.MinInt, math.MaxInt
		}
		holdFunc(t, f)
	}
	// The last operation has nothing behind it, whatever it is.
	for kind := range 60 {
		f := api.Func{Ops: []api.Op{{Kind: kind, To: 3}, {At: 1, Kind: kind, To: 3}}}
		if l := linker.Next(f, 1); len(l) != 0 {
			t.Error(kind, l)
		}
		want := 1
		if kind == api.KGoto || kind == api.KReturn || kind == api.KThrow {
			want = 0
		}
		if l := linker.Next(f, 0); len(l) != want {
			t.Error(kind, l)
		}
		// A To counts for jumps alone.
		f.Ops[0].To = 0
		holdFunc(t, f)
	}
}

// TestCoversStops leaves the catches at each place, begins anew, and has an owner who writes to them.
func TestCoversStops(t *testing.T) {
	f := api.Func{Ops: []api.Op{{At: 3}}}
	for n := range 5 {
		f.Catches = append(f.Catches, api.Catch{From: n % 2 * 3, To: 4 + n, Class: n})
	}
	all := slices.Clone(f.Catches)
	covers := linker.Covers(f, 0)
	for stop := range all {
		var l []api.Catch
		for c := range covers {
			l = append(l, c)
			if len(l) == stop+1 {
				break
			}
		}
		if !slices.Equal(l, all[:stop+1]) {
			t.Error(stop, l)
		}
	}
	for range covers {
		if !slices.Equal(slices.Collect(covers), all) {
			t.Error("not one within the other")
		}
	}
	clear(f.Catches)
	clear(f.Ops)
	if !slices.Equal(slices.Collect(covers), all) {
		t.Error("not what was there when it was asked for")
	}
}

// TestNames has Name and Find of methods that there are, and of such as there are not.
func TestNames(t *testing.T) {
	p := linked(t, world()...)
	for n, f := range p.Funcs {
		class := p.Classes[f.Class].Name
		if got := linker.Name(p, n); got != class+"."+f.Name+f.Desc {
			t.Error(n, got)
		}
		if k, is := linker.Find(p, class, f.Name, f.Desc); k != n || !is {
			t.Error(n, k, is)
		}
		for _, x := range [][3]string{{class + "x", f.Name, f.Desc}, {class, f.Name + "x", f.Desc}, {class, f.Name, f.Desc + "x"}, {"", f.Name, f.Desc}, {class, "", f.Desc}, {class, f.Name, ""}, {class, f.Name + f.Desc, ""}, {class + "." + f.Name, "", f.Desc}, {class, f.Desc, f.Name}} {
			if k, is := linker.Find(p, x[0], x[1], x[2]); k != 0 || is {
				t.Error(x, k, is)
			}
		}
	}
	for _, x := range []struct {
		class, name, desc string
		n                 int
	}{
		// Each class has its own, and none of those above it.
		{"A", "f", "()V", 4}, {"B", "f", "()V", 2}, {"C", "f", "()V", -1}, {"B", "g", "(J)V", -1}, {"B", "<init>", "()V", -1}, {"A", "<init>", "()V", 6}, {"Main", "main", "()I", 0}, {object, "f", "()V", -1}, {object, "<init>", "()V", -1}, {"Sys", "out", "(I)V", -1}, {"", "", "", -1},
	} {
		if k, is := linker.Find(p, x.class, x.name, x.desc); k != max(x.n, 0) || is != (x.n >= 0) {
			t.Error(x, k, is)
		}
	}
	for _, n := range append(far(), len(p.Funcs), len(p.Funcs)+1) {
		if s := linker.Name(p, n); s != "" {
			t.Error(n, s)
		}
	}
	for _, class := range append(far(), len(p.Classes), len(p.Classes)+1) {
		p.Funcs[2].Class = class
		if s := linker.Name(p, 2); s != "" {
			t.Error(class, s)
		}
		if k, is := linker.Find(p, "", "f", "()V"); k != 0 || is {
			t.Error(class, k, is)
		}
	}
	if s := linker.Name(api.Program{}, 0); s != "" {
		t.Error(s)
	}
	if s := linker.Name(api.Program{Funcs: []api.Func{{}}}, 0); s != "" {
		t.Error(s)
	}
	if k, is := linker.Find(api.Program{}, "Main", "main", "()I"); k != 0 || is {
		t.Error(k, is)
	}
}
