package cfg_test

import (
	"slices"
	"testing"

	"tabard/api"
)

// TestBlocks has methods whose blocks are written out.
func TestBlocks(t *testing.T) {
	for _, x := range []struct {
		f    api.Func
		want []api.Block
	}{
		{api.Func{}, nil},
		{fn("none"), []api.Block{{From: 0, To: 1}}},
		{fn("int; store; return"), []api.Block{{From: 0, To: 3}}},
		{fn("int; if 4; int; return; int; return"), []api.Block{{From: 0, To: 2, Next: []int{1, 2}}, {From: 2, To: 4}, {From: 4, To: 6}}},
		{fn("goto 0"), []api.Block{{From: 0, To: 1, Next: []int{0}}}},
		{fn("if 0"), []api.Block{{From: 0, To: 1, Next: []int{0}}}},
		{fn("nop; if 1"), []api.Block{{From: 0, To: 1, Next: []int{1}}, {From: 1, To: 2, Next: []int{1}}}},
		// Both ways of a jump to what stands behind it are one.
		{fn("if 1; return"), []api.Block{{From: 0, To: 1, Next: []int{1}}, {From: 1, To: 2}}},
		{fn("goto 1; return"), []api.Block{{From: 0, To: 1, Next: []int{1}}, {From: 1, To: 2}}},
		// A jump to nowhere ends a block, too.
		{fn("if 9; nop; goto -1; nop"), []api.Block{{From: 0, To: 1, Next: []int{1}}, {From: 1, To: 3}, {From: 3, To: 4}}},
		// Behind a return and a throw a block begins, also where nothing goes to.
		{fn("return; nop; throw; nop"), []api.Block{{From: 0, To: 1}, {From: 1, To: 3}, {From: 3, To: 4}}},
		// A To counts of jumps alone.
		{fn("nop; call 1; return 1; throw 1"), []api.Block{{From: 0, To: 3}, {From: 3, To: 4}}},
		// Addresses are not places.
		{fn("4: nop; 7: if 12; 10: nop; 12: return"), []api.Block{{From: 0, To: 2, Next: []int{1, 2}}, {From: 2, To: 3, Next: []int{2}}, {From: 3, To: 4}}},
		{fn("4: nop; 7: if 3; 10: nop; 12: return"), []api.Block{{From: 0, To: 2, Next: []int{1}}, {From: 2, To: 4}}},
		// They need not rise; of several at one address the first one is meant.
		{fn("5: nop; 5: nop; 3: goto 5; 4: return; 3: goto 3"), []api.Block{{From: 0, To: 2, Next: []int{1}}, {From: 2, To: 3, Next: []int{0}}, {From: 3, To: 4}, {From: 4, To: 5, Next: []int{1}}}},
	} {
		g := held(t, x.f)
		if l := g.Blocks(); !slices.EqualFunc(l, x.want, sameBlock) {
			t.Error(x.f.Ops, l, "not", x.want)
		}
	}
}

// TestKinds has an operation of each kind that there is, and of others, between others; its To is an address.
func TestKinds(t *testing.T) {
	for kind := -40; kind < 300; kind++ {
		f := fn("nop; nop; nop 1; nop; nop")
		f.Ops[2].Kind = kind
		l := held(t, f).Blocks()
		want := []api.Block{{From: 0, To: 5}}
		switch kind {
		case api.KIf, api.KIfI, api.KIfA, api.KIfNull:
			want = []api.Block{{From: 0, To: 1, Next: []int{1}}, {From: 1, To: 3, Next: []int{1, 2}}, {From: 3, To: 5}}
		case api.KGoto:
			want = []api.Block{{From: 0, To: 1, Next: []int{1}}, {From: 1, To: 3, Next: []int{1}}, {From: 3, To: 5}}
		case api.KReturn, api.KThrow:
			want = []api.Block{{From: 0, To: 3}, {From: 3, To: 5}}
		}
		if !slices.EqualFunc(l, want, sameBlock) {
			t.Error(kind, l)
		}
	}
	for _, kind := range append(far(), 1<<32+api.KGoto, 1<<8+api.KIf) {
		held(t, api.Func{Ops: []api.Op{{Kind: kind}, {At: 1, Kind: kind}}})
	}
}

// TestCatches has what handlers cover, and where they go on.
func TestCatches(t *testing.T) {
	five := "nop; goto 2; nop; goto 4; nop; return"
	for _, x := range []struct {
		code    string
		catches []string
		want    [][]int // of the blocks
	}{
		{five, nil, [][]int{nil, nil, nil}},
		// A block begins at each handler, whatever is covered, once.
		{"nop; nop; return", []string{"7 9 1"}, [][]int{nil, nil}},
		{"nop; nop; return", []string{"1 1 1", "2 1 1", "0 0 2", "1 0 2"}, [][]int{nil, nil, nil}},
		{"nop; nop; return", []string{"0 3 9", "0 3 -1"}, [][]int{nil}},
		{"nop; nop; return", []string{"0 3 0"}, [][]int{{0}}},
		// What begins at From is covered, what begins at To is not.
		{five, []string{"0 2 4"}, [][]int{{2}, nil, nil}},
		{five, []string{"1 2 4"}, [][]int{{2}, nil, nil}},
		{five, []string{"2 3 4"}, [][]int{nil, {2}, nil}},
		{five, []string{"1 3 4"}, [][]int{{2}, {2}, nil}},
		{five, []string{"3 4 4"}, [][]int{nil, {2}, nil}},
		{five, []string{"4 5 4"}, [][]int{nil, nil, {2}}},
		{five, []string{"5 6 4"}, [][]int{nil, nil, {2}}},
		{five, []string{"-5 99 4"}, [][]int{{2}, {2}, {2}}},
		{five, []string{"6 99 4", "-5 0 4"}, [][]int{nil, nil, nil}},
		// Handlers are told rising, each once, in whatever order the catches stand.
		{five, []string{"0 6 4", "0 6 2", "0 6 4", "0 2 0", "1 3 2"}, [][]int{{0, 1, 2}, {1, 2}, {1, 2}}},
		{five, []string{"0 1 4", "5 6 4", "3 4 4", "1 2 4"}, [][]int{{2}, {2}, {2}}},
		{five, []string{"4 6 0", "2 3 0", "0 9 2", "5 6 0"}, [][]int{{1}, {0, 1}, {0, 1}}},
		// Of several operations at the handler's address the first one is meant; all of them are covered.
		{"3: nop; 1: return; 1: nop; 3: return", []string{"1 2 3"}, [][]int{{0}, {0}}},
		{"1: nop; 7: return; 1: return; 7: return", []string{"7 8 7"}, [][]int{nil, {1}, nil, {1}}},
	} {
		f := fn(x.code, x.catches...)
		var got [][]int
		for _, b := range held(t, f).Blocks() {
			got = append(got, b.Catches)
		}
		if !slices.EqualFunc(got, x.want, slices.Equal) {
			t.Error(x.code, x.catches, got, "not", x.want)
		}
	}
}

// TestFarAddresses has addresses as low and as high as may be.
func TestFarAddresses(t *testing.T) {
	l := far()
	for _, at := range l {
		for _, to := range l {
			f := api.Func{Ops: []api.Op{{At: at, Kind: api.KIf, To: to}, {At: to, Kind: api.KGoto, To: at}, {At: 3, Kind: api.KGoto, To: 3}}, Catches: []api.Catch{{From: at, To: to, At: 3}, {From: to, To: at, At: at}, {From: at, To: at, At: to}}}
			held(t, f)
		}
	}
}

// TestLinked has methods of a program.
func TestLinked(t *testing.T) {
	// iconst_5, istore_0, iinc 0 -1, iload_0, ifne to the iinc, iload_0, ireturn.
	g := held(t, linked(t, nil, 8, 59, 132, 0, 255, 26, 154, 255, 252, 26, 172))
	want := []api.Block{{From: 0, To: 2, Next: []int{1}}, {From: 2, To: 5, Next: []int{1, 2}}, {From: 5, To: 7}}
	if l := g.Blocks(); !slices.EqualFunc(l, want, sameBlock) {
		t.Error(l)
	}
	// iconst_0, istore_0, iload_0, ifeq to the athrow, iconst_1, ireturn, aconst_null, athrow, pop, goto to the iload_0; the ifeq and the aconst_null are caught at the pop, the pop itself at the athrow.
	g = held(t, linked(t, []api.Handler{{From: 3, To: 6, At: 10}, {From: 8, To: 9, At: 10}, {From: 10, To: 11, At: 9}}, 3, 59, 26, 153, 0, 6, 4, 172, 1, 191, 87, 167, 255, 247))
	want = []api.Block{{From: 0, To: 2, Next: []int{1}}, {From: 2, To: 4, Next: []int{2, 4}, Catches: []int{5}}, {From: 4, To: 6}, {From: 6, To: 7, Next: []int{4}, Catches: []int{5}}, {From: 7, To: 8}, {From: 8, To: 10, Next: []int{1}, Catches: []int{4}}}
	if l := g.Blocks(); !slices.EqualFunc(l, want, sameBlock) {
		t.Error(l)
	}
	if l := slices.Collect(g.Order()); !slices.Equal(l, []int{0, 1, 5, 4, 2}) {
		t.Error(l)
	}
	if l := edges(g.Back()); !slices.Equal(l, []edge{{5, 1}}) || g.Reached(3) {
		t.Error(l)
	}
	// Methods that have lost what they do.
	f := linked(t, nil, 3, 172)
	f.Ops, f.Catches = nil, nil
	held(t, f)
	f.Ops, f.Catches = []api.Op{}, []api.Catch{{From: 0, To: 9, At: 0}}
	held(t, f)
}
