package cpool

import "tabard/api"

// Text is the text at an index.
func Text(l []api.Const, i int) (string, api.Errno) {
	c, e := entryAt(l, i, api.TagUtf8)
	return c.Text, e
}

// Class is the name of the class at an index.
func Class(l []api.Const, i int) (string, api.Errno) {
	c, e := entryAt(l, i, api.TagClass)
	if e != api.OK {
		return "", e
	}
	return Text(l, c.A)
}

// Ref is what the field or the method at an index names.
func Ref(l []api.Const, i, tag int) (api.Named, api.Errno) {
	if tag != api.TagField && tag != api.TagMethod {
		return api.Named{}, api.ErrPool
	}
	c, e := entryAt(l, i, tag)
	if e != api.OK {
		return api.Named{}, e
	}
	class, e := Class(l, c.A)
	if e != api.OK {
		return api.Named{}, e
	}
	name, desc, e := nameAndDesc(l, c.B)
	if e != api.OK {
		return api.Named{}, e
	}
	return api.Named{Class: class, Name: name, Desc: desc}, api.OK
}

// nameAndDesc are the texts that the name at an index names.
func nameAndDesc(l []api.Const, i int) (string, string, api.Errno) {
	c, e := entryAt(l, i, api.TagName)
	if e != api.OK {
		return "", "", e
	}
	name, e := Text(l, c.A)
	if e != api.OK {
		return "", "", e
	}
	desc, e := Text(l, c.B)
	if e != api.OK {
		return "", "", e
	}
	return name, desc, api.OK
}

// Number is the number at an index.
func Number(l []api.Const, i, tag int) (int64, api.Errno) {
	if tag != api.TagInt && tag != api.TagLong {
		return 0, api.ErrPool
	}
	c, e := entryAt(l, i, tag)
	return c.N, e
}

// entryAt is the entry at an index, which must have a tag.
func entryAt(l []api.Const, i, tag int) (api.Const, api.Errno) {
	if i < 0 || i >= len(l) || l[i].Tag != tag {
		return api.Const{}, api.ErrPool
	}
	return l[i], api.OK
}
