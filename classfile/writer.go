package classfile

import (
	"tabard/api"
	"tabard/cpool"
)

// write are the bytes of a class that may be, and whose pool has these bytes.
func write(c api.Class, pool []byte) []byte {
	b := u4(nil, magic)
	b = u2(b, c.Minor, c.Major)
	b = append(b, pool...)
	b = u2(b, c.Access, c.This, c.Super, 0)
	b = writeList(b, c.Fields, writeField)
	code, _ := cpool.Find(c.Pool, utf8(codeName))
	b = writeList(b, c.Methods, func(b []byte, m api.Member) []byte { return writeMethod(b, m, code) })
	return u2(b, 0)
}

// writeList puts things' number behind b, and then each of them.
func writeList[T any](b []byte, l []T, one func([]byte, T) []byte) []byte {
	b = u2(b, len(l))
	for _, x := range l {
		b = one(b, x)
	}
	return b
}

func writeField(b []byte, m api.Member) []byte {
	return u2(b, m.Access, m.Name, m.Desc, 0)
}

func writeMethod(b []byte, m api.Member, code int) []byte {
	attr := u2(nil, m.Stack, m.Locals)
	attr = u4(attr, int64(len(m.Code)))
	attr = append(attr, m.Code...)
	attr = writeList(attr, m.Handlers, writeHandler)
	attr = u2(attr, 0)
	b = u2(b, m.Access, m.Name, m.Desc, 1, code)
	b = u4(b, int64(len(attr)))
	return append(b, attr...)
}

func writeHandler(b []byte, h api.Handler) []byte {
	return u2(b, h.From, h.To, h.At, h.Type)
}

// u2 puts numbers of two bytes behind b, u4 one of four.
func u2(b []byte, l ...int) []byte {
	for _, n := range l {
		b = append(b, byte(n>>8), byte(n))
	}
	return b
}

func u4(b []byte, n int64) []byte {
	return u2(b, int(n>>16), int(n))
}
