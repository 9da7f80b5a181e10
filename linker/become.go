package linker

import (
	"tabard/api"
	"tabard/cpool"
)

// bare is an operation that is all in its rule.
func (b *body) bare(r rule, x api.Instr) (api.Op, api.Errno) {
	return api.Op{Kind: r.kind, A: r.n}, api.OK
}

// fixed puts the rule's number, pushed the instruction's.
func (b *body) fixed(r rule, x api.Instr) (api.Op, api.Errno) {
	return api.Op{Kind: r.kind, N: int64(r.n)}, api.OK
}

func (b *body) pushed(r rule, x api.Instr) (api.Op, api.Errno) {
	return api.Op{Kind: r.kind, N: int64(x.A)}, api.OK
}

// held puts a number out of the pool, of the tag that the rule asks for.
func (b *body) held(r rule, x api.Instr) (api.Op, api.Errno) {
	n, e := cpool.Number(b.pool, x.A, r.n)
	if e != api.OK {
		return api.Op{}, api.ErrConst
	}
	return api.Op{Kind: r.kind, N: n}, api.OK
}

// local is of the instruction's local; B is iinc's amount, and nought of all others.
func (b *body) local(r rule, x api.Instr) (api.Op, api.Errno) {
	return b.ofLocal(api.Op{Kind: r.kind, A: x.A, N: int64(x.B)})
}

// fixedLocal is of the rule's local.
func (b *body) fixedLocal(r rule, x api.Instr) (api.Op, api.Errno) {
	return b.ofLocal(api.Op{Kind: r.kind, A: r.n})
}

// ofLocal is an operation whose local, and of a long the one behind it, there must be.
func (b *body) ofLocal(op api.Op) (api.Op, api.Errno) {
	last := op.A
	if op.Kind == api.KLLoad || op.Kind == api.KLStore {
		last++
	}
	if last >= b.locals {
		return api.Op{}, api.ErrLocal
	}
	return op, api.OK
}

func (b *body) jump(r rule, x api.Instr) (api.Op, api.Errno) {
	return api.Op{Kind: r.kind, A: r.n, To: x.A}, api.OK
}
