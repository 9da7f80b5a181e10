package typing

import "tabard/api"

// effect is what an operation does; false, of a kind that there is not.
func (m *method) effect(x api.Op) (effect, bool) {
	for _, rules := range [...]func(*method, api.Op) (effect, bool){
		(*method).constants, (*method).locals, (*method).singles, (*method).numbers, (*method).flow, (*method).members, (*method).objects, (*method).arrays,
	} {
		if e, is := rules(m, x); is {
			return e, true
		}
	}
	return effect{}, false
}

// constants are operations that put what hangs on nothing.
func (m *method) constants(x api.Op) (effect, bool) {
	switch x.Kind {
	case api.KNop:
		return takes(), true
	case api.KNull:
		return takes().puts(null()), true
	case api.KInt, api.KIn:
		return takes().puts(whole()), true
	case api.KLong:
		return takes().puts(long()), true
	}
	return effect{}, false
}

// locals are operations that ask locals, or change them.
func (m *method) locals(x api.Op) (effect, bool) {
	switch x.Kind {
	case api.KILoad:
		return takes().does(load(x.A, isInt)), true
	case api.KLLoad:
		return takes().does(load(x.A, isLong)), true
	case api.KALoad:
		return takes().does(load(x.A, isReference)), true
	case api.KIStore:
		return m.takesWhatFits(whole()).does(store(x.A)), true
	case api.KLStore:
		return m.takesWhatFits(long()).does(store(x.A)), true
	case api.KAStore:
		return takes(reference()).does(store(x.A)), true
	case api.KIInc:
		return takes().does(func(f *frame, _ []api.Type) { f.local(x.A, isInt) }), true
	}
	return effect{}, false
}

// load puts what a local is, which must be such; store makes a local what was taken.
func load(n int, such func(api.Type) bool) func(*frame, []api.Type) {
	return func(f *frame, _ []api.Type) { f.put(f.local(n, such)) }
}

func store(n int) func(*frame, []api.Type) {
	return func(f *frame, taken []api.Type) { f.store(n, taken[0]) }
}

// singles are operations that only change where on the stack something stands.
func (m *method) singles(x api.Op) (effect, bool) {
	switch x.Kind {
	case api.KPop:
		return takes(single()), true
	case api.KDup:
		return takes(single()).does(func(f *frame, taken []api.Type) { f.put(taken[0], taken[0]) }), true
	case api.KDupX1:
		return takes(single(), single()).does(func(f *frame, taken []api.Type) { f.put(taken[1], taken[0], taken[1]) }), true
	case api.KSwap:
		return takes(single(), single()).does(func(f *frame, taken []api.Type) { f.put(taken[1], taken[0]) }), true
	}
	return effect{}, false
}

// numbers are operations that reckon, and tell numbers.
func (m *method) numbers(x api.Op) (effect, bool) {
	switch x.Kind {
	case api.KI2, api.KIShift:
		return m.takesWhatFits(whole(), whole()).puts(whole()), true
	case api.KL2:
		return m.takesWhatFits(long(), long()).puts(long()), true
	case api.KLShift:
		return m.takesWhatFits(long(), whole()).puts(long()), true
	case api.KINeg, api.KNarrow:
		return m.takesWhatFits(whole()).puts(whole()), true
	case api.KLNeg:
		return m.takesWhatFits(long()).puts(long()), true
	case api.KI2L:
		return m.takesWhatFits(whole()).puts(long()), true
	case api.KL2I:
		return m.takesWhatFits(long()).puts(whole()), true
	case api.KLCmp:
		return m.takesWhatFits(long(), long()).puts(whole()), true
	case api.KOut:
		return m.takesWhatFits(whole()), true
	case api.KOutL:
		return m.takesWhatFits(long()), true
	}
	return effect{}, false
}

// flow are operations that say where it goes on.
func (m *method) flow(x api.Op) (effect, bool) {
	switch x.Kind {
	case api.KIf:
		return m.takesWhatFits(whole()), true
	case api.KIfI:
		return m.takesWhatFits(whole(), whole()), true
	case api.KIfA:
		return takes(reference(), reference()), true
	case api.KIfNull:
		return takes(reference()), true
	case api.KGoto:
		return takes(), true
	case api.KReturn:
		if x.A == 0 {
			return takes(), true
		}
		return m.takesWhatFits(m.code.Ret), true
	case api.KThrow:
		return m.takesWhatFits(m.class(api.ClThrowable)), true
	}
	return effect{}, false
}

// members are operations of static fields, fields and methods.
func (m *method) members(x api.Op) (effect, bool) {
	switch x.Kind {
	case api.KGetStat:
		return takes().puts(at(m.program.Statics, x.A)), true
	case api.KPutStat:
		return m.takesWhatFits(at(m.program.Statics, x.A)), true
	case api.KGetField:
		return m.takesWhatFits(m.class(int(x.N))).puts(m.field(x)), true
	case api.KPutField:
		return m.takesWhatFits(m.class(int(x.N)), m.field(x)), true
	case api.KCallStat, api.KCallSpec, api.KCallVirt:
		called := at(m.program.Funcs, x.A)
		e := m.takesWhatFits(called.Args...)
		if called.Ret.Kind != api.TyTop {
			e = e.puts(called.Ret)
		}
		return e, true
	}
	return effect{}, false
}

// field is the type of the field that an operation names.
func (m *method) field(x api.Op) api.Type {
	return at(at(m.program.Classes, int(x.N)).Fields, x.A)
}

// objects are operations that make objects and arrays, and ask what they are.
func (m *method) objects(x api.Op) (effect, bool) {
	switch x.Kind {
	case api.KNew:
		return takes().puts(m.class(x.A)), true
	case api.KNewArr:
		return m.takesWhatFits(whole()).puts(at(m.program.Types, x.A)), true
	case api.KCast:
		return takes(reference()).puts(at(m.program.Types, x.A)), true
	case api.KIs:
		return takes(reference()).puts(whole()), true
	case api.KLength:
		return takes(anyArray()).puts(whole()), true
	}
	return effect{}, false
}

// arrays are operations of what stands in arrays.
func (m *method) arrays(x api.Op) (effect, bool) {
	switch x.Kind {
	case api.KIALoad:
		return takes(m.arrayOf(whole()), m.whatFits(whole())).puts(whole()), true
	case api.KLALoad:
		return takes(m.arrayOf(long()), m.whatFits(whole())).puts(long()), true
	case api.KAALoad:
		return takes(arrayOfRefs(), m.whatFits(whole())).does(func(f *frame, taken []api.Type) { f.put(element(taken[0])) }), true
	case api.KIAStore:
		return takes(m.arrayOf(whole()), m.whatFits(whole()), m.whatFits(whole())), true
	case api.KLAStore:
		return takes(m.arrayOf(long()), m.whatFits(whole()), m.whatFits(long())), true
	case api.KAAStore:
		return takes(arrayOfRefs(), m.whatFits(whole()), reference()), true
	}
	return effect{}, false
}
