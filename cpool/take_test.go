package cpool_test

import (
	"bytes"
	"encoding/binary"
	"iter"
	"math"
	"slices"
	"strings"
	"testing"

	"tabard/api"
	"tabard/cpool"
)

// Short for entries.
var none = api.Const{}

func utf(s string) api.Const       { return api.Const{Tag: api.TagUtf8, Text: s} }
func num(n int64) api.Const        { return api.Const{Tag: api.TagInt, N: n} }
func long(n int64) api.Const       { return api.Const{Tag: api.TagLong, N: n} }
func class(a int) api.Const        { return api.Const{Tag: api.TagClass, A: a} }
func pair(tag, a, b int) api.Const { return api.Const{Tag: tag, A: a, B: b} }

// pool has the entry 0 ahead of the others.
func pool(l ...api.Const) []api.Const { return append([]api.Const{none}, l...) }

// seq are all lists of at most so many of some things.
func seq[T any](things []T, most int) iter.Seq[[]T] {
	return func(yield func([]T) bool) {
		for n, l := 0, [][]T{nil}; n <= most; n++ {
			var longer [][]T
			for _, s := range l {
				if !yield(slices.Clone(s)) {
					return
				}
				for _, x := range things {
					if n < most {
						longer = append(longer, append(slices.Clone(s), x))
					}
				}
			}
			l = longer
		}
	}
}

// sizes is how many bytes stand behind a tag, by the document's list; of a text: ahead of it.
var sizes = map[byte]int{1: 2, 3: 4, 5: 8, 7: 2, 9: 4, 10: 4, 12: 4}

// meantEntry is what an entry's bytes say (its tag, and as many behind it as the tag has), without its text.
func meantEntry(b []byte) api.Const {
	c := api.Const{Tag: int(b[0])}
	switch b = b[1:]; c.Tag {
	case 3:
		c.N = int64(int32(binary.BigEndian.Uint32(b)))
	case 5:
		c.N = int64(binary.BigEndian.Uint64(b))
	case 7:
		c.A = int(binary.BigEndian.Uint16(b))
	case 9, 10, 12:
		c.A, c.B = int(binary.BigEndian.Uint16(b)), int(binary.BigEndian.Uint16(b[2:]))
	}
	return c
}

// meant is what the document says of Take.
func meant(b []byte) ([]api.Const, int, api.Errno) {
	if len(b) < 2 {
		return nil, 0, api.ErrEnds
	}
	count := int(binary.BigEndian.Uint16(b))
	if count > 4096 {
		return nil, 0, api.ErrLong
	}
	l, at := make([]api.Const, count), 2
	for i := 1; i < count; i++ {
		if at == len(b) {
			return nil, 0, api.ErrEnds
		}
		size, is := sizes[b[at]]
		if !is || b[at] == 5 && i == count-1 {
			return nil, 0, api.ErrTag
		}
		if at+1+size > len(b) {
			return nil, 0, api.ErrEnds
		}
		l[i] = meantEntry(b[at : at+1+size])
		at += 1 + size
		switch l[i].Tag {
		case 5:
			i++
		case 1:
			n := int(binary.BigEndian.Uint16(b[at-2:]))
			if n > 255 {
				return nil, 0, api.ErrUtf
			}
			if at+n > len(b) {
				return nil, 0, api.ErrEnds
			}
			for _, x := range b[at : at+n] {
				if x == 0 || x > 127 {
					return nil, 0, api.ErrUtf
				}
			}
			l[i].Text = string(b[at : at+n])
			at += n
		}
	}
	return l, at, api.OK
}

func checkTake(t *testing.T, b []byte) {
	t.Helper()
	want, read, fault := meant(b)
	if l, n, e := cpool.Take(b); e != fault || n != read || !slices.Equal(l, want) {
		t.Errorf("Take(%v) = %v, %d, %d", b[:min(len(b), 40)], l, n, e)
	}
}

// ahead puts the number of entries ahead of bytes.
func ahead(count int, b ...byte) []byte {
	return append([]byte{byte(count >> 8), byte(count)}, b...)
}

// textBytes are the bytes of a text that has a length, and these.
func textBytes(length int, s string) []byte {
	return append([]byte{1, byte(length >> 8), byte(length)}, s...)
}

// thereAndBack are pools and their bytes.
func thereAndBack() []struct {
	b []byte
	l []api.Const
} {
	plain := make([]byte, 127)
	for i := range plain {
		plain[i] = byte(i + 1)
	}
	return []struct {
		b []byte
		l []api.Const
	}{
		{ahead(0), nil}, {ahead(1), pool()},
		{[]byte{0, 2, 1, 0, 1, 65}, pool(utf("A"))}, // the document's example
		{ahead(2, 1, 0, 0), pool(utf(""))}, {ahead(2, textBytes(127, string(plain))...), pool(utf(string(plain)))},
		{ahead(2, textBytes(255, strings.Repeat("x", 255))...), pool(utf(strings.Repeat("x", 255)))},
		{ahead(2, 3, 0, 0, 0, 7), pool(num(7))}, {ahead(2, 3, 1, 2, 3, 4), pool(num(0x01020304))}, {ahead(2, 3, 255, 255, 255, 255), pool(num(-1))},
		{ahead(2, 3, 127, 255, 255, 255), pool(num(math.MaxInt32))}, {ahead(2, 3, 128, 0, 0, 0), pool(num(math.MinInt32))}, {ahead(2, 3, 0, 0, 0, 0), pool(num(0))},
		{ahead(3, 5, 1, 2, 3, 4, 5, 6, 7, 8), pool(long(0x0102030405060708), none)}, {ahead(3, 5, 255, 255, 255, 255, 255, 255, 255, 254), pool(long(-2), none)},
		{ahead(3, 5, 127, 255, 255, 255, 255, 255, 255, 255), pool(long(math.MaxInt64), none)}, {ahead(3, 5, 128, 0, 0, 0, 0, 0, 0, 0), pool(long(math.MinInt64), none)},
		{ahead(3, 5, 0, 0, 0, 0, 128, 0, 0, 0), pool(long(1<<31), none)}, {ahead(3, 5, 0, 0, 0, 0, 0, 0, 0, 0), pool(long(0), none)},
		{ahead(2, 7, 1, 2), pool(class(258))}, {ahead(2, 7, 255, 255), pool(class(65535))}, {ahead(2, 7, 0, 0), pool(class(0))}, {ahead(2, 7, 128, 0), pool(class(32768))},
		{ahead(2, 9, 1, 2, 3, 4), pool(pair(9, 258, 772))}, {ahead(2, 10, 0, 0, 255, 255), pool(pair(10, 0, 65535))}, {ahead(2, 12, 255, 255, 0, 0), pool(pair(12, 65535, 0))},
		{ahead(6, 5, 0, 0, 0, 0, 0, 0, 0, 1, 5, 0, 0, 0, 0, 0, 0, 0, 1, 7, 0, 1), pool(long(1), none, long(1), none, class(1))},
		{ahead(4, 3, 0, 0, 0, 5, 3, 0, 0, 0, 5, 1, 0, 1, 'A'), pool(num(5), num(5), utf("A"))},
	}
}

func TestTake(t *testing.T) {
	for _, x := range thereAndBack() {
		// What stands behind the pool is not looked at.
		for _, tail := range [][]byte{nil, {0}, {1, 0, 1, 65}, {5, 255}, {255, 255, 255}} {
			b := append(slices.Clone(x.b), tail...)
			if l, n, e := cpool.Take(b); e != api.OK || n != len(x.b) || !slices.Equal(l, x.l) {
				t.Error(b, l, n, e)
			}
			checkTake(t, b)
		}
	}
}

func TestTakeRefuses(t *testing.T) {
	for _, x := range []struct {
		b []byte
		e api.Errno
	}{
		{nil, api.ErrEnds}, {[]byte{}, api.ErrEnds}, {[]byte{0}, api.ErrEnds}, {[]byte{255}, api.ErrEnds}, {ahead(2), api.ErrEnds}, {ahead(api.MaxPool), api.ErrEnds},
		{ahead(api.MaxPool + 1), api.ErrLong}, {ahead(65535), api.ErrLong}, {ahead(api.MaxPool+1, 2), api.ErrLong}, {ahead(32768), api.ErrLong},
		{ahead(2, 0), api.ErrTag}, {ahead(2, 2), api.ErrTag}, {ahead(2, 4), api.ErrTag}, {ahead(2, 6), api.ErrTag}, {ahead(2, 8), api.ErrTag}, {ahead(2, 11), api.ErrTag}, {ahead(2, 13), api.ErrTag}, {ahead(2, 255), api.ErrTag},
		// A Long that is the last one is refused as soon as its tag is read.
		{ahead(2, 5), api.ErrTag}, {ahead(2, 5, 0), api.ErrTag}, {ahead(2, 5, 0, 0, 0, 0, 0, 0, 0, 0), api.ErrTag}, {ahead(3, 5), api.ErrEnds}, {ahead(3, 7, 0, 1, 5), api.ErrTag},
		{ahead(4, 5, 0, 0, 0, 0, 0, 0, 0, 0, 5), api.ErrTag}, {ahead(5, 5, 0, 0, 0, 0, 0, 0, 0, 0, 5), api.ErrEnds}, {ahead(3, 5, 0, 0, 0, 0, 0, 0, 0), api.ErrEnds},
		// What stands behind a Long is no bytes.
		{ahead(4, 5, 0, 0, 0, 0, 0, 0, 0, 0), api.ErrEnds}, {ahead(4, 5, 0, 0, 0, 0, 0, 0, 0, 0, 0), api.ErrTag},
		// A text's length is asked ahead of its bytes, and these when all are there.
		{ahead(2, 1), api.ErrEnds}, {ahead(2, 1, 255), api.ErrEnds}, {ahead(2, 1, 1, 0), api.ErrUtf}, {ahead(2, 1, 255, 255), api.ErrUtf}, {ahead(2, 1, 0, 255), api.ErrEnds},
		{ahead(2, textBytes(256, strings.Repeat("x", 256))...), api.ErrUtf}, {ahead(2, textBytes(256, "\x00")...), api.ErrUtf}, {ahead(2, textBytes(255, strings.Repeat("x", 254))...), api.ErrEnds},
		{ahead(2, 1, 0, 1, 0), api.ErrUtf}, {ahead(2, 1, 0, 1, 128), api.ErrUtf}, {ahead(2, 1, 0, 1, 255), api.ErrUtf}, {ahead(2, 1, 0, 2, 65, 0), api.ErrUtf}, {ahead(2, 1, 0, 2, 0, 65), api.ErrUtf}, {ahead(2, 1, 0, 2, 0xc3, 0xa4), api.ErrUtf},
		{ahead(2, 1, 0, 2, 0), api.ErrEnds}, {ahead(2, 1, 0, 3, 200, 65), api.ErrEnds}, {ahead(3, 1, 0, 1, 200, 99), api.ErrUtf},
		// The first one that is refused tells the error.
		{ahead(3, 2, 1, 1, 0), api.ErrTag}, {ahead(3, 1, 1, 0, 2), api.ErrUtf}, {ahead(3, 7, 0, 1, 2), api.ErrTag}, {ahead(3, 7, 0), api.ErrEnds}, {ahead(4, 1, 0, 1, 0, 2), api.ErrUtf}, {ahead(4, 3, 0, 0, 0, 1, 1, 1, 0, 5), api.ErrUtf},
		{ahead(2, 3, 0, 0, 0), api.ErrEnds}, {ahead(2, 7), api.ErrEnds}, {ahead(2, 7, 0), api.ErrEnds}, {ahead(2, 9, 0, 0, 0), api.ErrEnds}, {ahead(2, 10, 0, 0), api.ErrEnds}, {ahead(2, 12, 0), api.ErrEnds},
	} {
		if l, n, e := cpool.Take(x.b); e != x.e || n != 0 || l != nil {
			t.Error(x.b[:min(len(x.b), 12)], l, n, e)
		}
		checkTake(t, x.b)
	}
}

func TestTakeOfEachTag(t *testing.T) {
	for tag := range 256 {
		for tail := range 12 {
			for count := 1; count <= 4; count++ {
				checkTake(t, ahead(count, append([]byte{byte(tag)}, []byte{0, 2, 66, 128, 0, 200, 1, 0, 255, 12, 0}[:tail%12]...)...))
			}
		}
	}
}

func TestTakeOfEachByteOfAText(t *testing.T) {
	for c := range 256 {
		for _, s := range []string{string([]byte{byte(c)}), "A" + string([]byte{byte(c)}), string([]byte{byte(c)}) + "A", strings.Repeat("x", 254) + string([]byte{byte(c)})} {
			want := api.OK
			if c == 0 || c > 127 {
				want = api.ErrUtf
			}
			b := ahead(2, textBytes(len(s), s)...)
			if _, _, e := cpool.Take(b); e != want {
				t.Errorf("%q: %d", s, e)
			}
			if e := cpool.Check(pool(utf(s))); e != want {
				t.Errorf("%q: %d", s, e)
			}
			checkTake(t, b)
		}
	}
}

func TestTakeOfAllShortBytes(t *testing.T) {
	for b := range seq([]byte{0, 1, 3, 5, 7, 128}, 5) {
		for count := range 5 {
			checkTake(t, ahead(count, b...))
		}
	}
	for b := range seq([]byte{0, 1, 2, 16, 17, 255}, 3) {
		checkTake(t, b)
	}
	// Entries one behind the other, and what is left of them when bytes are missing, or one is another.
	parts := [][]byte{{1, 0, 0}, {1, 0, 2, 66, 67}, {3, 1, 2, 3, 4}, {5, 1, 2, 3, 4, 5, 6, 7, 8}, {7, 0, 9}, {9, 1, 2, 3, 4}, {10, 4, 3, 2, 1}, {12, 0, 1, 0, 2}}
	for l := range seq(parts, 3) {
		all := slices.Concat(l...)
		for count := range 8 {
			for cut := range len(all) + 1 {
				checkTake(t, ahead(count, all[:cut]...))
			}
			for at := range all {
				other := slices.Clone(all)
				other[at] ^= 0x81
				checkTake(t, ahead(count, other...))
			}
		}
	}
}

func TestTakeAtTheLimit(t *testing.T) {
	full := ahead(api.MaxPool, bytes.Repeat([]byte{7, 1, 2}, api.MaxPool-1)...)
	l, n, e := cpool.Take(full)
	if e != api.OK || n != len(full) || len(l) != api.MaxPool || l[0] != none || l[1] != class(258) || l[api.MaxPool-1] != class(258) {
		t.Error(len(l), n, e)
	}
	if _, _, e := cpool.Take(ahead(api.MaxPool+1, full[2:]...)); e != api.ErrLong {
		t.Error(e)
	}
	if l, n, e := cpool.Take(full[:len(full)-1]); e != api.ErrEnds || n != 0 || l != nil {
		t.Error(len(l), n, e)
	}
	// The last place is for what stands behind a Long, or for another than a Long.
	longs := bytes.Repeat([]byte{5, 0, 0, 0, 0, 0, 0, 0, 7}, api.MaxPool/2)
	checkTake(t, ahead(api.MaxPool-1, longs...))
	checkTake(t, ahead(api.MaxPool, longs...))
	if l, _, e := cpool.Take(ahead(api.MaxPool-1, longs...)); e != api.OK || len(l) != api.MaxPool-1 {
		t.Error(len(l), e)
	}
	if _, _, e := cpool.Take(ahead(api.MaxPool, longs...)); e != api.ErrTag {
		t.Error(e)
	}
	// Many bytes behind the pool, and texts that are as long as they may be.
	texts := bytes.Repeat(textBytes(255, strings.Repeat("z", 255)), api.MaxPool-1)
	if l, n, e := cpool.Take(append(ahead(api.MaxPool, texts...), make([]byte, 1<<20)...)); e != api.OK || n != 2+len(texts) || len(l) != api.MaxPool {
		t.Error(len(l), n, e)
	}
}

func TestTakeIsNobodysElse(t *testing.T) {
	b := ahead(3, 1, 0, 2, 'A', 'B', 7, 0, 1)
	kept := slices.Clone(b)
	l, _, _ := cpool.Take(b)
	if !bytes.Equal(b, kept) {
		t.Error(b)
	}
	clear(b)
	if !slices.Equal(l, pool(utf("AB"), class(1))) {
		t.Error(l)
	}
	first, _, _ := cpool.Take(kept)
	clear(first)
	if again, _, _ := cpool.Take(kept); !slices.Equal(again, l) {
		t.Error(again)
	}
}
