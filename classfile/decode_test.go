package classfile_test

import (
	"bytes"
	"encoding/binary"
	"slices"
	"testing"

	"tabard/api"
	"tabard/classfile"
)

// small is a class, and smallBytes are its bytes, put down by hand.
func small() api.Class {
	return api.Class{
		Major:  50,
		Pool:   pool(utf("A"), class(1), long(-2), none, utf("Code"), utf("()V")),
		Access: 33, This: 2, Super: 2,
		Fields:  []api.Member{{Access: 9, Name: 1, Desc: 7}, {Access: 1, Name: 5, Desc: 7}},
		Methods: []api.Member{{Access: 8, Name: 1, Desc: 6, Stack: 3, Locals: 4, Code: []byte{3, 87, 177}, Handlers: []api.Handler{{From: 0, To: 3, At: 2}, {From: 1, To: 2, At: 1, Type: 2}}}},
	}
}

func smallClass() api.Class {
	c := small()
	c.Pool = append(c.Pool, utf("I"))
	return c
}

func smallBytes() []byte {
	return slices.Concat(
		[]byte{0xCA, 0xFE, 0xBA, 0xBE, 0, 0, 0, 50}, // 0
		[]byte{0, 8, 1, 0, 1, 'A', 7, 0, 1, 5, 255, 255, 255, 255, 255, 255, 255, 254, 1, 0, 4, 'C', 'o', 'd', 'e', 1, 0, 3, '(', ')', 'V', 1, 0, 1, 'I'}, // 8
		[]byte{0, 33, 0, 2, 0, 2, 0, 0},                                    // 43
		[]byte{0, 2, 0, 9, 0, 1, 0, 7, 0, 0, 0, 1, 0, 5, 0, 7, 0, 0},       // 51
		[]byte{0, 1, 0, 8, 0, 1, 0, 6, 0, 1, 0, 5, 0, 0, 0, 31},            // 69
		[]byte{0, 3, 0, 4, 0, 0, 0, 3, 3, 87, 177},                         // 85
		[]byte{0, 2, 0, 0, 0, 3, 0, 2, 0, 0, 0, 1, 0, 2, 0, 1, 0, 2, 0, 0}, // 96
		[]byte{0, 0}, // 116
	)
}

// Addresses in smallBytes.
const (
	atPool       = 8
	atAccess     = 43
	atInterfaces = 49
	atFields     = 51
	atFieldAttrs = 59
	atLastAttrs  = 67
	atMethods    = 69
	atAttrs      = 77
	atCodeIndex  = 79
	atSize       = 81
	atStack      = 85
	atLocals     = 87
	atCodeSize   = 89
	atHandlers   = 96
	atCodeAttrs  = 114
	atClassAttrs = 116
	smallSize    = 118
)

func checkDecode(t *testing.T, b []byte) {
	t.Helper()
	want, fault := meantDecode(b)
	kept := slices.Clone(b)
	c, e := classfile.Decode(b)
	if e != fault || !alike(c, want) {
		t.Errorf("Decode of %d bytes: %d, not %d", len(b), e, fault)
	}
	if !bytes.Equal(b, kept) {
		t.Error("Decode has written to the bytes")
	}
	if e != api.OK {
		return
	}
	if back, e := classfile.Encode(c); e != api.OK || !bytes.Equal(back, b) {
		t.Errorf("Encode of Decode of %d bytes: %d", len(b), e)
	}
}

func TestBytesByHand(t *testing.T) {
	b := smallBytes()
	if len(b) != smallSize || !bytes.Equal(b, meantBytes(smallClass())) {
		t.Fatal("the test itself is wrong", len(b))
	}
	if c, e := classfile.Decode(b); e != api.OK || !alike(c, smallClass()) {
		t.Error(c, e)
	}
	if got, e := classfile.Encode(smallClass()); e != api.OK || !bytes.Equal(got, b) {
		t.Error(got, e)
	}
}

func TestEncodeOfTheSample(t *testing.T) {
	for _, f := range []func(c *api.Class){
		func(c *api.Class) {}, func(c *api.Class) { c.Major = 45 }, func(c *api.Class) { c.Access = 0 }, func(c *api.Class) { c.Fields, c.Methods = nil, nil }, func(c *api.Class) { c.Methods = []api.Member{} }, func(c *api.Class) { c.Fields = c.Fields[:1] },
		// The Code index is the least one.
		func(c *api.Class) { c.Pool[1].Text = "code" }, func(c *api.Class) { c.Pool[atX].Text = "Code" },
		func(c *api.Class) { c.Methods[1].Handlers = nil }, func(c *api.Class) { c.Methods[1].Code, c.Methods[1].Handlers = slices.Repeat([]byte{0}, 4096), nil }, func(c *api.Class) { c.Methods[1].Handlers = slices.Repeat(c.Methods[1].Handlers, 32) },
		func(c *api.Class) { c.Methods[1].Stack, c.Methods[1].Locals = 64, 63 }, func(c *api.Class) { c.Fields = many(c, 256, api.Member{Access: 9, Desc: atJ}) }, func(c *api.Class) { c.Methods = many(c, 256, method()) },
		func(c *api.Class) { c.Pool = append(c.Pool, slices.Repeat([]api.Const{num(1)}, 4096-poolSize)...) },
	} {
		c := sample()
		f(&c)
		b, e := classfile.Encode(c)
		if e != api.OK || !bytes.Equal(b, meantBytes(c)) {
			t.Fatal(len(b), e)
		}
		if back, e := classfile.Decode(b); e != api.OK || !alike(back, c) {
			t.Error(e)
		}
		checkDecode(t, b)
	}
}

func TestDecodeOfTheBeginning(t *testing.T) {
	for _, x := range []struct {
		b []byte
		e api.Errno
	}{
		{nil, api.ErrEnds}, {[]byte{}, api.ErrEnds}, {[]byte{0}, api.ErrEnds}, {[]byte{0, 0, 0}, api.ErrEnds}, {[]byte{0xCA, 0xFE, 0xBA}, api.ErrEnds}, {[]byte{0, 0, 0, 0}, api.ErrMagic}, {[]byte{0xBE, 0xBA, 0xFE, 0xCA}, api.ErrMagic}, {[]byte{0xCA, 0xFE, 0xBA, 0xBF}, api.ErrMagic},
		{[]byte{0xCA, 0xFE, 0xBA, 0xBE}, api.ErrEnds}, {[]byte{0xCA, 0xFE, 0xBA, 0xBE, 0, 0}, api.ErrEnds}, {[]byte{0xCA, 0xFE, 0xBA, 0xBE, 0, 1, 0}, api.ErrEnds}, {[]byte{0xCA, 0xFE, 0xBA, 0xBE, 1, 0, 0}, api.ErrEnds},
		{[]byte{0xCA, 0xFE, 0xBA, 0xBE, 0, 0, 0, 0x35}, api.ErrVersion}, // the document's example
		{[]byte{0xCA, 0xFE, 0xBA, 0xBE, 0, 0, 0, 44}, api.ErrVersion}, {[]byte{0xCA, 0xFE, 0xBA, 0xBE, 0, 1, 0, 52}, api.ErrVersion}, {[]byte{0xCA, 0xFE, 0xBA, 0xBE, 1, 0, 0, 45}, api.ErrVersion}, {[]byte{0xCA, 0xFE, 0xBA, 0xBE, 0, 0, 1, 50}, api.ErrVersion}, {[]byte{0xCA, 0xFE, 0xBA, 0xBE, 0, 3, 0, 45}, api.ErrVersion}, {[]byte{0xCA, 0xFE, 0xBA, 0xBE, 0, 52, 0, 0}, api.ErrVersion},
		{[]byte{0xCA, 0xFE, 0xBA, 0xBE, 0, 0, 0, 45}, api.ErrEnds}, {[]byte{0xCA, 0xFE, 0xBA, 0xBE, 0, 0, 0, 52}, api.ErrEnds},
		// The pool's errors.
		{[]byte{0xCA, 0xFE, 0xBA, 0xBE, 0, 0, 0, 52, 0}, api.ErrEnds}, {[]byte{0xCA, 0xFE, 0xBA, 0xBE, 0, 0, 0, 52, 0, 2}, api.ErrEnds}, {[]byte{0xCA, 0xFE, 0xBA, 0xBE, 0, 0, 0, 52, 0, 2, 0}, api.ErrTag}, {[]byte{0xCA, 0xFE, 0xBA, 0xBE, 0, 0, 0, 52, 0, 2, 5}, api.ErrTag}, {[]byte{0xCA, 0xFE, 0xBA, 0xBE, 0, 0, 0, 52, 0x10, 1}, api.ErrLong}, {[]byte{0xCA, 0xFE, 0xBA, 0xBE, 0, 0, 0, 52, 0, 2, 1, 1, 0}, api.ErrUtf}, {[]byte{0xCA, 0xFE, 0xBA, 0xBE, 0, 0, 0, 52, 0, 2, 1, 0, 1, 128}, api.ErrUtf},
		{[]byte{0xCA, 0xFE, 0xBA, 0xBE, 0, 0, 0, 52, 0, 0}, api.ErrEnds}, {[]byte{0xCA, 0xFE, 0xBA, 0xBE, 0, 0, 0, 52, 0, 0, 0, 33, 0, 0, 0, 0, 0, 0, 0, 0, 0, 0, 0, 0}, api.ErrPool},
	} {
		if c, e := classfile.Decode(x.b); e != x.e || !isZero(c) {
			t.Error(x.b, e)
		}
		checkDecode(t, x.b)
	}
}

func TestDecodeOfAllVersions(t *testing.T) {
	b := smallBytes()
	for minor := range 3 {
		for major := range 1 << 16 {
			if major > 300 && minor > 0 {
				break
			}
			copy(b[4:], twos(nil, minor, major))
			want := api.ErrVersion
			if minor == 0 && 45 <= major && major <= 52 {
				want = api.OK
			}
			if _, e := classfile.Decode(b); e != want {
				t.Fatal(minor, major, e)
			}
		}
	}
}

// TestDecodeOfBytesThatEnd cuts bytes at each address.
func TestDecodeOfBytesThatEnd(t *testing.T) {
	for _, b := range [][]byte{smallBytes(), meantBytes(sample())} {
		for n := range b {
			if c, e := classfile.Decode(b[:n]); e != api.ErrEnds || !isZero(c) {
				t.Error(n, e)
			}
			checkDecode(t, b[:n])
		}
		for _, more := range [][]byte{{0}, {1}, {0, 0}, {0xCA, 0xFE, 0xBA, 0xBE}, b} {
			if c, e := classfile.Decode(slices.Concat(b, more)); e != api.ErrLeft || !isZero(c) {
				t.Error(more, e)
			}
		}
	}
}

// TestDecodeTellsWhereItIs has something that may not be at an address, and the bytes end right behind it, a little ahead of that, or not at all.
func TestDecodeTellsWhereItIs(t *testing.T) {
	for _, x := range []struct {
		at, n int // the number, of two bytes
		told  int // behind which byte it is told
		e     api.Errno
	}{
		{atInterfaces, 1, atInterfaces + 2, api.ErrAttr}, {atInterfaces, 256, atInterfaces + 2, api.ErrAttr}, {atInterfaces, 65535, atInterfaces + 2, api.ErrAttr},
		{atFieldAttrs, 1, atFieldAttrs + 2, api.ErrAttr}, {atFieldAttrs, 256, atFieldAttrs + 2, api.ErrAttr}, {atLastAttrs, 1, atLastAttrs + 2, api.ErrAttr},
		{atAttrs, 0, atAttrs + 2, api.ErrAttr}, {atAttrs, 2, atAttrs + 2, api.ErrAttr}, {atAttrs, 257, atAttrs + 2, api.ErrAttr}, {atAttrs, 65535, atAttrs + 2, api.ErrAttr},
		{atCodeIndex, 0, atCodeIndex + 2, api.ErrAttr}, {atCodeIndex, 1, atCodeIndex + 2, api.ErrAttr}, {atCodeIndex, 2, atCodeIndex + 2, api.ErrAttr}, {atCodeIndex, 4, atCodeIndex + 2, api.ErrAttr}, {atCodeIndex, 6, atCodeIndex + 2, api.ErrAttr}, {atCodeIndex, 8, atCodeIndex + 2, api.ErrAttr}, {atCodeIndex, 261, atCodeIndex + 2, api.ErrAttr}, {atCodeIndex, 65535, atCodeIndex + 2, api.ErrAttr},
		// How many bytes follow is told at the method's end.
		{atSize + 2, 30, atClassAttrs, api.ErrAttr}, {atSize + 2, 32, atClassAttrs, api.ErrAttr}, {atSize + 2, 0, atClassAttrs, api.ErrAttr}, {atSize + 2, 65535, atClassAttrs, api.ErrAttr}, {atSize, 1, atClassAttrs, api.ErrAttr}, {atSize, 256, atClassAttrs, api.ErrAttr}, {atSize, 65535, atClassAttrs, api.ErrAttr},
		{atCodeAttrs, 1, atCodeAttrs + 2, api.ErrAttr}, {atCodeAttrs, 256, atCodeAttrs + 2, api.ErrAttr}, {atClassAttrs, 1, atClassAttrs + 2, api.ErrAttr}, {atClassAttrs, 256, atClassAttrs + 2, api.ErrAttr},
		// Numbers that ask for more than is there.
		{atFields, 65535, atMethods + 8, api.ErrAttr}, {atMethods, 2, smallSize, api.ErrEnds}, {atMethods, 65535, smallSize, api.ErrEnds}, {atCodeSize, 1, smallSize, api.ErrEnds}, {atCodeSize, 65535, smallSize, api.ErrEnds}, {atCodeSize, 32768, smallSize, api.ErrEnds}, {atCodeSize + 2, 65535, smallSize, api.ErrEnds}, {atHandlers, 65535, smallSize, api.ErrEnds},
	} {
		b := smallBytes()
		copy(b[x.at:], twos(nil, x.n))
		for _, n := range []int{x.told, x.told + 1, smallSize} {
			if c, e := classfile.Decode(b[:min(n, smallSize)]); e != x.e || !isZero(c) {
				t.Error(x, n, e)
			}
		}
		if c, e := classfile.Decode(b[:x.told-1]); e != api.ErrEnds || !isZero(c) {
			t.Error(x, e)
		}
		for n := range smallSize + 1 {
			checkDecode(t, b[:n])
		}
	}
}

// TestDecodeTellsTheFirst has two things in one file that may not be.
func TestDecodeTellsTheFirst(t *testing.T) {
	type change struct{ at, n int }
	for _, x := range []struct {
		l    []change
		more int // bytes behind the end
		e    api.Errno
	}{
		{[]change{{0, 0}, {6, 53}}, 1, api.ErrMagic}, {[]change{{6, 53}, {atPool, 0xFFFF}}, 1, api.ErrVersion}, {[]change{{4, 1}, {atPool, 0xFFFF}}, 1, api.ErrVersion}, {[]change{{atPool, 0xFFFF}, {atInterfaces, 1}}, 1, api.ErrLong}, {[]change{{atPool + 2, 0}, {atInterfaces, 1}}, 1, api.ErrTag},
		{[]change{{atClassAttrs, 1}}, 1, api.ErrAttr}, {[]change{{atClassAttrs, 1}}, 70000, api.ErrLong}, {[]change{{0, 0}}, 70000, api.ErrLong}, {nil, 1 << 16, api.ErrLong}, {nil, 1<<16 - smallSize, api.ErrLeft}, {nil, 1<<16 - smallSize + 1, api.ErrLong},
		// What Check says comes last.
		{[]change{{atAccess, 2}}, 0, api.ErrAccess}, {[]change{{atAccess, 2}}, 1, api.ErrLeft}, {[]change{{atAccess, 2}, {atClassAttrs, 1}}, 0, api.ErrAttr}, {[]change{{atAccess + 2, 1}}, 0, api.ErrPool}, {[]change{{atAccess + 4, 99}, {atCodeIndex, 1}}, 0, api.ErrAttr},
		{[]change{{atStack, 65}}, 0, api.ErrLong}, {[]change{{atStack, 65}}, 1, api.ErrLeft}, {[]change{{atLocals, 65535}}, 0, api.ErrLong}, {[]change{{atLocals, 65535}, {atSize + 2, 30}}, 0, api.ErrAttr},
	} {
		b := append(smallBytes(), make([]byte, x.more)...)
		for _, y := range x.l {
			copy(b[y.at:], twos(nil, y.n))
		}
		if c, e := classfile.Decode(b); e != x.e || !isZero(c) {
			t.Error(x, e)
		}
		checkDecode(t, b)
	}
}

// TestDecodeOfEachFault decodes what Check refuses, as far as bytes can say it.
func TestDecodeOfEachFault(t *testing.T) {
	said := 0
	for _, x := range slices.Concat(faults()...) {
		c := sample()
		x.f(&c)
		b := meantBytes(c)
		checkDecode(t, b)
		if _, e := classfile.Decode(b); e == x.e {
			said++
		}
	}
	if said < 100 {
		t.Error(said)
	}
}

func TestDecodeWithoutCode(t *testing.T) {
	for _, index := range []int{0, 1, 5, 65535} {
		b := smallBytes()
		b[bytes.Index(b, []byte("Code"))] = 'c'
		copy(b[atCodeIndex:], twos(nil, index))
		if _, e := classfile.Decode(b); e != api.ErrAttr {
			t.Error(index, e)
		}
		if _, e := classfile.Decode(b[:atCodeIndex+2]); e != api.ErrAttr {
			t.Error(index, e)
		}
		// Without methods it is not asked for.
		b = append(b[:atMethods], 0, 0, 0, 0)
		if c, e := classfile.Decode(b); e != api.OK || len(c.Methods) != 0 {
			t.Error(e)
		}
	}
}

// TestDecodeOfAnotherCodeIndex has the Utf8 Code at two indices: the least one is meant.
func TestDecodeOfAnotherCodeIndex(t *testing.T) {
	c := sample()
	b := meantBytes(c)
	at := bytes.Index(b, twos(nil, 1, atInit, atVoid, 1, 1)) + 8
	if _, e := classfile.Decode(b); e != api.OK {
		t.Fatal(e)
	}
	for n := range poolSize + 2 {
		copy(b[at:], twos(nil, n))
		want := api.ErrAttr
		if n == 1 {
			want = api.OK
		}
		if _, e := classfile.Decode(b); e != want {
			t.Error(n, e)
		}
	}
}

// TestDecodeOfChangedBytes changes, leaves out and puts in each byte.
func TestDecodeOfChangedBytes(t *testing.T) {
	for _, b := range [][]byte{smallBytes(), meantBytes(sample())} {
		for at := range b {
			other := slices.Clone(b)
			for x := range 256 {
				other[at] = byte(x)
				checkDecode(t, other)
			}
			checkDecode(t, slices.Delete(slices.Clone(b), at, at+1))
			for _, x := range []byte{0, 1, 7, 255} {
				checkDecode(t, slices.Insert(slices.Clone(b), at, x))
			}
		}
	}
}

func TestDecodeOfMixedBytes(t *testing.T) {
	n := numbers(7)
	taken := 0
	for range 50000 {
		b := smallBytes()
		for range 1 + n.below(4) {
			at := 4 + n.below(smallSize-4)
			b[at] = []byte{0, 1, 2, 3, 5, 7, 8, 9, 33, 177, 255, b[n.below(smallSize)]}[n.below(12)]
		}
		checkDecode(t, b)
		if _, e := classfile.Decode(b); e == api.OK {
			taken++
		}
	}
	if taken < 250 {
		t.Error(taken)
	}
}

// full is a class whose file has so many bytes.
func full(t *testing.T, size int) api.Class {
	c := sample()
	c.Methods = many(&c, 16, api.Member{Access: 8, Desc: atVoid, Code: slices.Repeat([]byte{0}, 4096)})
	last := &c.Methods[15]
	last.Code = nil
	last.Code = slices.Repeat([]byte{0}, size-len(meantBytes(c)))
	if n := len(meantBytes(c)); n != size || len(last.Code) > 4096 {
		t.Fatal("the test itself is wrong", n)
	}
	return c
}

func TestTheLongestFile(t *testing.T) {
	c := full(t, 65536)
	b, e := classfile.Encode(c)
	if e != api.OK || !bytes.Equal(b, meantBytes(c)) {
		t.Fatal(len(b), e)
	}
	if back, e := classfile.Decode(b); e != api.OK || !alike(back, c) {
		t.Error(e)
	}
	long := full(t, 65537)
	if e := classfile.Check(long); e != api.OK {
		t.Error(e)
	}
	if b, e := classfile.Encode(long); e != api.ErrLong || b != nil {
		t.Error(len(b), e)
	}
	if c, e := classfile.Decode(meantBytes(long)); e != api.ErrLong || !isZero(c) {
		t.Error(e)
	}
	// Check's error comes ahead of it.
	long.Methods[3].Code[0] = 99
	if b, e := classfile.Encode(long); e != api.ErrOpcode || b != nil {
		t.Error(len(b), e)
	}
}

// TestDecodeOfMoreThanMay reads what only Check refuses: it is not told ahead of what stands behind it.
func TestDecodeOfMoreThanMay(t *testing.T) {
	for _, x := range []struct {
		f func(c *api.Class)
		e api.Errno
	}{
		{func(c *api.Class) { c.Fields = slices.Repeat(c.Fields, 200) }, api.ErrLong}, {func(c *api.Class) { c.Fields = slices.Repeat(c.Fields, 128) }, api.ErrTwice}, {func(c *api.Class) { c.Methods = slices.Repeat(c.Methods, 129) }, api.ErrLong}, {func(c *api.Class) { c.Methods = slices.Repeat(c.Methods, 128) }, api.ErrTwice},
		{func(c *api.Class) { c.Methods[1].Code = make([]byte, 4097) }, api.ErrLong}, {func(c *api.Class) { c.Methods[1].Code = make([]byte, 60000) }, api.ErrLong}, {func(c *api.Class) { c.Methods[1].Code = nil }, api.ErrShort}, {func(c *api.Class) { c.Methods[1].Handlers = make([]api.Handler, 7000) }, api.ErrLong},
		{func(c *api.Class) { c.Methods[0].Handlers = slices.Repeat(method().Handlers, 33) }, api.ErrLong}, {func(c *api.Class) { c.Methods[1].Stack = 65535 }, api.ErrLong},
	} {
		c := sample()
		x.f(&c)
		b := meantBytes(c)
		if _, e := classfile.Decode(b); e != x.e {
			t.Error(e, x.e)
		}
		checkDecode(t, b)
		if _, e := classfile.Decode(append(b, 0)); e != api.ErrLeft {
			t.Error(e)
		}
		binary.BigEndian.PutUint16(b[len(b)-2:], 1)
		if _, e := classfile.Decode(b); e != api.ErrAttr {
			t.Error(e)
		}
	}
}
