package verify_test

import (
	"slices"
	"testing"

	"tabard/api"
	"tabard/sample"
)

// byHand is methods out of operations that name only what there is: addresses stand twice, in any order, and far apart.
func (r *numbers) byHand() api.Func {
	f := api.Func{Static: true, Stack: 1 + r.Below(4), Locals: 2}
	if r.Below(3) == 0 {
		f.Args = sample.Types(r.one("int", "int int", "long", sample.Throwable, "[[J"))
	}
	for range 1 + r.Below(12) {
		kind := []int{api.KNop, api.KInt, api.KPop, api.KGoto, api.KIf, api.KIfNull, api.KThrow, api.KNull, api.KAStore, api.KIStore, api.KALoad, api.KILoad, api.KCast, api.KNew, api.KDup, api.KReturn}[r.Below(16)]
		f.Ops = append(f.Ops, api.Op{At: r.Below(14) << r.Below(2) * 10, Kind: kind})
	}
	address := func() int { return f.Ops[r.Below(len(f.Ops))].At }
	for i := range f.Ops {
		f.Ops[i].To = address()
		if f.Ops[i].Kind != api.KReturn {
			f.Ops[i].A = r.Below(2)
		}
	}
	for range r.Below(3) {
		from := address()
		f.Catches = append(f.Catches, api.Catch{From: from, To: from + 1<<r.Below(20), At: address(), Class: api.ClThrowable + r.Below(7)})
	}
	if r.Below(2) == 0 {
		slices.SortFunc(f.Ops, func(a, b api.Op) int { return a.At - b.At })
	}
	return f
}

// TestByHand has programs that have just the classes that are built in.
func TestByHand(t *testing.T) {
	r, got := numbers{11}, map[api.Errno]int{}
	for range 60 {
		p := api.Program{Classes: sample.Link().Classes[:api.BuiltIn], Types: sample.Types("[I java/lang/ArithmeticException")}
		for range 50 {
			p.Funcs = append(p.Funcs, r.byHand())
		}
		m := meaning(p)
		for f := range p.Funcs {
			got[m.hold(t, f)]++
		}
	}
	for s, n := range map[string]int{"OK": 100, "ErrJoin": 10, "ErrVar": 100, "ErrType": 100, "ErrUnder": 100, "ErrOver": 10, "ErrFall": 100} {
		if got[errno(s)] < n {
			t.Error(s, got[errno(s)])
		}
	}
}
