package cfg_test

import (
	"math"
	"strconv"
	"strings"
	"testing"

	"tabard/api"
	"tabard/classfile"
	"tabard/linker"
)

// kinds are operations' kinds by short names.
func kinds() map[string]int {
	return map[string]int{"none": 0, "nop": api.KNop, "int": api.KInt, "store": api.KIStore, "if": api.KIf, "ifi": api.KIfI, "ifa": api.KIfA, "ifnull": api.KIfNull, "goto": api.KGoto, "return": api.KReturn, "throw": api.KThrow, "call": api.KCallStat}
}

// fn is a method out of texts: operations with a ; between, each with the address that it goes to, if it has one, and its own ahead of it and a colon, if that is not one behind the last one's; catches are three addresses each.
func fn(code string, catches ...string) api.Func {
	var f api.Func
	at := -1
	for s := range strings.SplitSeq(code, "; ") {
		at++
		if ahead, rest, is := strings.Cut(s, ": "); is {
			at, s = number(ahead), rest
		}
		name, to, _ := strings.Cut(s, " ")
		kind, is := kinds()[name]
		if !is {
			panic(s)
		}
		x := api.Op{At: at, Kind: kind}
		if to != "" {
			x.To = number(to)
		}
		f.Ops = append(f.Ops, x)
	}
	for _, s := range catches {
		l := strings.Fields(s)
		f.Catches = append(f.Catches, api.Catch{From: number(l[0]), To: number(l[1]), At: number(l[2]), Class: api.ClThrowable})
	}
	return f
}

func number(s string) int {
	n, e := strconv.Atoi(s)
	if e != nil {
		panic(s)
	}
	return n
}

// linked is main of a class Main with a code and handlers.
func linked(t *testing.T, handlers []api.Handler, code ...byte) api.Func {
	t.Helper()
	c, e := classfile.New("Main", "java/lang/Object")
	if e != api.OK {
		t.Fatal(e)
	}
	c, e = classfile.WithMethod(c, "main", "()I", api.Member{Access: api.AccStatic, Stack: 4, Locals: 4, Code: code, Handlers: handlers})
	if e != api.OK {
		t.Fatal(e)
	}
	b, e := classfile.Encode(c)
	if e != api.OK {
		t.Fatal(e)
	}
	p, _, e := linker.Link(b)
	if e != api.OK {
		t.Fatal(e)
	}
	return p.Funcs[p.Main]
}

// far are numbers far beside all places and blocks; some would be such if they were cut.
func far() []int {
	return []int{math.MinInt, math.MinInt + 1, -1 << 32, math.MinInt32, -1 << 8, -2, -1, 1 << 31, 1 << 32, 1<<32 + 1, math.MaxInt - 1, math.MaxInt}
}

// numbers tells numbers that look as if they were in no order: the same ones each time.
type numbers uint64

func (r *numbers) below(n int) int {
	*r = *r*6364136223846793005 + 1442695040888963407
	return int(uint64(*r) >> 33 % uint64(n))
}
