package hier_test

import (
	"math"
	"strconv"

	"tabard/api"
)

// far are numbers far beside all classes; some would be classes if they were cut.
func far() []int {
	return []int{math.MinInt, math.MinInt + 1, -1 << 32, math.MinInt32, -1 << 8, -8, 1 << 8, 1 << 16, math.MaxInt32, 1 << 32, 1<<32 + 1, 1<<32 + 8, math.MaxInt}
}

// lines are classes and their supers, a text for each: A:B is A under B; A is A under java/lang/Object.
func lines(l ...string) []api.Line {
	var out []api.Line
	for _, s := range l {
		x := api.Line{Name: s, Super: object}
		for i := range s {
			if s[i] == ':' {
				x = api.Line{Name: s[:i], Super: s[i+1:]}
			}
		}
		out = append(out, x)
	}
	return out
}

// numbered is n classes; the class i stands under the one that the function names, or under java/lang/Object, if that is below 0.
func numbered(n int, super func(i int) int) []api.Line {
	var l []api.Line
	for i := range n {
		x := api.Line{Name: "C" + strconv.Itoa(i), Super: object}
		if k := super(i); k >= 0 {
			x.Super = "C" + strconv.Itoa(k)
		}
		l = append(l, x)
	}
	return l
}

// numbers tells numbers that look as if they were in no order: the same ones each time.
type numbers uint64

func (r *numbers) below(n int) int {
	*r = *r*6364136223846793005 + 1442695040888963407
	return int(uint64(*r) >> 33 % uint64(n))
}

// shapes are hierarchies of all sorts.
func shapes() [][]api.Line {
	l := [][]api.Line{
		nil, {}, lines("A"), lines("B:A", "A"), lines("A", "B:A"), lines("C:A", "A", "E:"+throwable, "B:A"),
		lines("A:java/lang/ArrayStoreException", "B:A", "C:"+throwable, "D", "E:D", "F:C"),
		lines("D:C", "C:B", "B:A", "A"), lines("A:"+throwable, "B", "C:B", "D:A", "E:B", "F:A"),
		// Names of all sorts: hier asks nothing of them.
		{{Name: "", Super: object}}, {{Name: "A", Super: ""}, {Name: "", Super: object}}, {{Name: "", Super: throwable}, {Name: " ", Super: ""}},
		lines("[I", "a/b", "a", "a/", "/", "\x00", "\xff\xfe", "java/lang/object", "java/lang/Object ", "java/lang", "Object:[I"),
	}
	for _, n := range []int{1, 2, 7, 8, 9, 62, 63, 64} {
		l = append(l,
			numbered(n, func(i int) int { return -1 }), numbered(n, func(i int) int { return i - 1 }), numbered(n, func(i int) int { return (i+1)/2 - 1 }),
			numbered(n, func(i int) int { return (i+2)%(n+1) - 1 }), // the last one on top
			numbered(n, func(i int) int { return min(i-1, 2) }), numbered(n, func(i int) int { return i - 1 - i%3 }))
	}
	return l
}
