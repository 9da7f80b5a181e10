package cpool

import "tabard/api"

// countBytes is how many bytes the number of entries has.
const countBytes = 2

// widths is how many bytes each part of an entry has behind the tag; of a part that the tag does not have, nought. Of a text it is those that tell its length.
type widths struct {
	text int
	n    int
	a    int
	b    int
}

// tags are the widths by tags; a number that is no tag has none.
var tags = [...]widths{
	api.TagUtf8:   {text: 2},
	api.TagInt:    {n: 4},
	api.TagLong:   {n: 8},
	api.TagClass:  {a: 2},
	api.TagField:  {a: 2, b: 2},
	api.TagMethod: {a: 2, b: 2},
	api.TagName:   {a: 2, b: 2},
}

func widthsOf(tag int) (widths, bool) {
	if tag < 0 || tag >= len(tags) {
		return widths{}, false
	}
	w := tags[tag]
	return w, w != widths{}
}

// checkEntry tells whether an entry may be, wherever it stands.
func checkEntry(c api.Const) api.Errno {
	w, is := widthsOf(c.Tag)
	if !is || c != cut(c, w) {
		return api.ErrTag
	}
	if len(c.Text) > api.MaxText || !isPlain(c.Text) {
		return api.ErrUtf
	}
	return api.OK
}

// cut is an entry, but of each part just what its width holds.
func cut(c api.Const, w widths) api.Const {
	if w.text == 0 {
		c.Text = ""
	}
	c.N = signed(c.N, w.n)
	c.A = unsigned(c.A, w.a)
	c.B = unsigned(c.B, w.b)
	return c
}

// signed is the number that the lowest bytes of n say.
func signed(n int64, size int) int64 {
	above := 64 - 8*size
	return n << above >> above
}

func unsigned(n, size int) int {
	return n & (1<<(8*size) - 1)
}

func isPlain(s string) bool {
	for i := range len(s) {
		if s[i] == 0 || s[i] > 127 {
			return false
		}
	}
	return true
}

// writeEntry puts an entry's bytes behind b.
func writeEntry(b []byte, c api.Const) []byte {
	w, _ := widthsOf(c.Tag)
	b = append(b, byte(c.Tag))
	b = append(write(b, int64(len(c.Text)), w.text), c.Text...)
	b = write(b, c.N, w.n)
	b = write(b, int64(c.A), w.a)
	return write(b, int64(c.B), w.b)
}

// write puts the lowest bytes of a number behind b.
func write(b []byte, n int64, size int) []byte {
	for k := range size {
		b = append(b, byte(n>>(8*(size-1-k))))
	}
	return b
}
