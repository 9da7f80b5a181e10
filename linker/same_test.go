package linker_test

import (
	"reflect"
	"testing"

	"tabard/api"
	"tabard/linker"
)

// leaves are all numbers, texts and truths that a program has, where they can be written to.
func leaves(p *api.Program) []reflect.Value {
	var l []reflect.Value
	var walk func(v reflect.Value)
	walk = func(v reflect.Value) {
		switch v.Kind() {
		case reflect.Struct:
			for i := range v.NumField() {
				walk(v.Field(i))
			}
		case reflect.Slice:
			for i := range v.Len() {
				walk(v.Index(i))
			}
		default:
			l = append(l, v)
		}
	}
	walk(reflect.ValueOf(p).Elem())
	return l
}

// lists are all lists of a program, where they can be written to.
func lists(p *api.Program) []reflect.Value {
	var l []reflect.Value
	var walk func(v reflect.Value)
	walk = func(v reflect.Value) {
		switch v.Kind() {
		case reflect.Struct:
			for i := range v.NumField() {
				walk(v.Field(i))
			}
		case reflect.Slice:
			l = append(l, v)
			for i := range v.Len() {
				walk(v.Index(i))
			}
		}
	}
	walk(reflect.ValueOf(p).Elem())
	return l
}

// spoil makes a leaf another one.
func spoil(v reflect.Value) {
	switch v.Kind() {
	case reflect.String:
		v.SetString(v.String() + "x")
	case reflect.Bool:
		v.SetBool(!v.Bool())
	default:
		v.SetInt(v.Int() + 1)
	}
}

// rich is a program that has something in each list.
func rich(t *testing.T) api.Program {
	return linked(t, world(fn("f (I[J)V", "new A; checkcast A; newarray 10; ldc2_w 7; goto 0", "0 3 3 E", "0 3 3"), fn("static g ()V", "iinc 1 1; return", "0 4 3"))...)
}

// TestSame changes each leaf and each list of a program, by itself.
func TestSame(t *testing.T) {
	p := rich(t)
	q := rich(t)
	if !linker.Same(p, q) || !linker.Same(q, p) || !linker.Same(p, p) {
		t.Fatal("the same program")
	}
	if n := len(leaves(&q)); n < 200 {
		t.Fatal(n)
	}
	for i, v := range leaves(&q) {
		kept := reflect.New(v.Type()).Elem()
		kept.Set(v)
		spoil(v)
		if linker.Same(p, q) || linker.Same(q, p) {
			t.Error("leaf", i, v)
		}
		v.Set(kept)
		if !linker.Same(p, q) {
			t.Fatal("leaf", i)
		}
	}
	for i, v := range lists(&q) {
		kept := reflect.ValueOf(v.Interface())
		n := v.Len()
		others := []reflect.Value{reflect.Append(kept.Slice3(0, n, n), reflect.Zero(v.Type().Elem()))}
		if n > 0 {
			others = append(others, kept.Slice(0, n-1), kept.Slice(1, n), reflect.Zero(v.Type()))
		}
		for _, other := range others {
			v.Set(other)
			if linker.Same(p, q) || linker.Same(q, p) {
				t.Error("list", i, other)
			}
		}
		v.Set(kept)
		if n == 0 {
			v.Set(reflect.MakeSlice(v.Type(), 0, 3))
			if !linker.Same(p, q) || !linker.Same(q, p) {
				t.Error("empty", i)
			}
			v.Set(reflect.Zero(v.Type()))
			if !linker.Same(p, q) || !linker.Same(q, p) {
				t.Error("nil", i)
			}
		}
	}
	if !linker.Same(api.Program{}, api.Program{Classes: []api.Klass{}, Funcs: []api.Func{}, Statics: []api.Type{}, Types: []api.Type{}}) || linker.Same(api.Program{}, p) || linker.Same(p, api.Program{}) {
		t.Error("nothing")
	}
}

// TestClone writes to a program's clone, and to a program that has one.
func TestClone(t *testing.T) {
	for _, p := range []api.Program{rich(t), {}, {Classes: []api.Klass{}, Funcs: []api.Func{{}}}, {Funcs: []api.Func{{Class: -7, Ops: []api.Op{{Kind: 99}}}}, Main: 9}} {
		q := linker.Clone(p)
		if !linker.Same(p, q) {
			t.Fatal("not the same")
		}
		r := linker.Clone(q)
		for _, v := range leaves(&q) {
			spoil(v)
		}
		for _, v := range lists(&q) {
			if v.Len() > 0 {
				v.Index(0).SetZero()
			}
			reflect.Append(reflect.ValueOf(v.Interface()), reflect.Zero(v.Type().Elem()))
		}
		if !linker.Same(p, r) || !alike(p, r) {
			t.Error("shared")
		}
	}
	p := rich(t)
	q := linker.Clone(p)
	for _, v := range leaves(&p) {
		spoil(v)
	}
	if !linker.Same(q, rich(t)) {
		t.Error("shared")
	}
	// What is put behind one list of a clone is in no other.
	for _, v := range lists(&q) {
		reflect.Append(reflect.ValueOf(v.Interface()), reflect.Zero(v.Type().Elem()))
	}
	if !linker.Same(q, rich(t)) {
		t.Error("one behind the other")
	}
}
