package cfg_test

import (
	"slices"
	"testing"
	"time"

	"tabard/api"
	"tabard/cfg"
)

// The methods here are so long that whoever goes through all operations, or all catches, for each of them takes minutes; near-linear is less than a second.
const (
	many   = 1 << 19
	limit  = 20 * time.Second
	target = many / 2
)

func soon(t *testing.T, f api.Func) *cfg.Graph {
	t.Helper()
	start := time.Now()
	g := cfg.New(f)
	if d := time.Since(start); d > limit {
		t.Error("New took", d)
	}
	return g
}

// TestLongJumps has a jump at each place, from one end to the other.
func TestLongJumps(t *testing.T) {
	for _, kind := range []int{api.KIf, api.KGoto} {
		var f api.Func
		for i := range many {
			f.Ops = append(f.Ops, api.Op{At: i, Kind: kind, To: many - 1 - i})
		}
		g := soon(t, f)
		l := g.Blocks()
		if len(l) != many {
			t.Fatal(len(l))
		}
		for _, b := range []int{1, 2, many/2 - 1, many / 2, many - 2} {
			want := []int{many - 1 - b}
			if kind == api.KIf {
				want = []int{min(b+1, many-1-b), max(b+1, many-1-b)}
			}
			if !slices.Equal(l[b].Next, slices.Compact(want)) || g.Reached(b) != (kind == api.KIf) {
				t.Error(kind, b, l[b])
			}
		}
		want := many / 2
		if kind == api.KGoto {
			want = 1
		}
		if n := len(g.Headers()); n != want {
			t.Error(kind, n)
		}
	}
}

// TestLongCatches has as many catches as operations, that cover most of these, and go on at few.
func TestLongCatches(t *testing.T) {
	var f api.Func
	for i := range many {
		kind := api.KNop
		if i%3 == 2 {
			kind = api.KIf
		}
		f.Ops = append(f.Ops, api.Op{At: 2 * i, Kind: kind, To: 2 * i})
		f.Catches = append(f.Catches, api.Catch{From: i / 2, To: 2*many - i, At: 2 * (i % 7)})
	}
	g := soon(t, f)
	for _, x := range g.Blocks()[many/4:] {
		// Handlers begin at the places 0 to 6, and jumps cut at 2, 3, 5 and 6: these are the blocks 0 to 6.
		if x.From < many/4 || x.To > many/3 {
			continue
		}
		if !slices.Equal(x.Catches, []int{0, 1, 2, 3, 4, 5, 6}) {
			t.Fatal(x)
		}
	}
	if l := g.Preds(6); len(l) < many/4 {
		t.Error(len(l))
	}
}

// TestLongBlock has one block that is all covered, over and over, and one operation at its end that is not.
func TestLongBlock(t *testing.T) {
	var f api.Func
	for i := range many {
		f.Ops = append(f.Ops, api.Op{At: i, Kind: api.KNop})
		f.Catches = append(f.Catches, api.Catch{From: 0, To: many - 1, At: many - 1 - i%2*many})
	}
	g := soon(t, f)
	l := g.Blocks()
	want := []api.Block{{From: 0, To: many - 1, Next: []int{1}, Catches: []int{1}}, {From: many - 1, To: many}}
	if !slices.EqualFunc(l, want, sameBlock) {
		t.Error(l)
	}
}

// TestLongHandlers has one block that is covered by catches, each of which goes on at a block of its own.
func TestLongHandlers(t *testing.T) {
	var f api.Func
	for i := range many {
		x := api.Op{At: i, Kind: api.KNop}
		if i >= target-1 {
			x.Kind = api.KReturn
		}
		f.Ops = append(f.Ops, x)
		f.Catches = append(f.Catches, api.Catch{From: i % 3, To: target, At: target + i/2})
	}
	g := soon(t, f)
	l := g.Blocks()
	if len(l) != target+1 || len(l[0].Catches) != target {
		t.Fatal(len(l), len(l[0].Catches))
	}
	for i, b := range l[0].Catches {
		if b != i+1 || len(l[b].Catches) != 0 {
			t.Fatal(i, b)
		}
	}
}

// TestLongNested has a block at each place; a catch from each on to the end, and within it one of that place alone.
func TestLongNested(t *testing.T) {
	var f api.Func
	for i := range many {
		f.Ops = append(f.Ops, api.Op{At: i, Kind: api.KIf, To: i})
		f.Catches = append(f.Catches, api.Catch{From: 2 * i, To: many, At: 5}, api.Catch{From: 2*i + 1, To: 2*i + 2, At: 5})
	}
	g := soon(t, f)
	for b, x := range g.Blocks() {
		if !slices.Equal(x.Catches, []int{5}) {
			t.Fatal(b, x)
		}
	}
}

// TestLongChain has blocks each of which is only come to from within the one ahead of it, and ways out of each.
func TestLongChain(t *testing.T) {
	var f api.Func
	for i := range many {
		f.Ops = append(f.Ops, api.Op{At: i, Kind: api.KIf, To: i / 2})
	}
	f.Ops = append(f.Ops, api.Op{At: many, Kind: api.KReturn})
	g := soon(t, f)
	spot := 0
	for b := range g.Order() {
		if b != spot {
			t.Fatal(spot, b)
		}
		spot++
	}
	if n := len(g.Headers()); spot != many+1 || n != many/2 {
		t.Error(spot, n)
	}
	for a, b := range g.Back() {
		if b != a/2 {
			t.Fatal(a, b)
		}
	}
}
