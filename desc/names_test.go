package desc_test

import (
	"regexp"
	"strings"
	"testing"

	"tabard/api"
	"tabard/desc"
)

// partOf are the bytes of a name's part, written out as the document counts them: from 33 to 126, less six.
const partOf = `[\x21-\x2d\x30-\x3a\x3d\x3f-\x5a\x5c-\x7e]+`

var (
	partRule  = regexp.MustCompile(`^` + partOf + `$`)
	classRule = regexp.MustCompile(`^` + partOf + `(/` + partOf + `)*$`)
)

// named is what the document says of a text that a rule takes or not.
func named(takes bool, s string) api.Errno {
	switch {
	case len(s) > api.MaxText:
		return api.ErrLong
	case !takes:
		return api.ErrIdent
	}
	return api.OK
}

func checkNames(t *testing.T, s string) {
	t.Helper()
	if e := desc.ClassName(s); e != named(classRule.MatchString(s), s) {
		t.Errorf("ClassName(%q) = %d", s, e)
	}
	if e := desc.MemberName(s); e != named(s == "<init>" || partRule.MatchString(s), s) {
		t.Errorf("MemberName(%q) = %d", s, e)
	}
}

func TestNamesOfEachByte(t *testing.T) {
	parts := 0
	for c := range 256 {
		s := string([]byte{byte(c)})
		in := c >= 33 && c <= 126 && !strings.Contains(".;[/<>", s)
		if in {
			parts++
		}
		for _, x := range []string{s, "a" + s, s + "a", "a" + s + "b"} {
			if e := desc.MemberName(x); e != named(in, x) {
				t.Errorf("MemberName(%q) = %d", x, e)
			}
			if e := desc.ClassName("p/" + x + "/q"); e != named(in || x == "a/b", x) {
				t.Errorf("ClassName(%q) = %d", "p/"+x+"/q", e)
			}
			checkNames(t, x)
		}
	}
	if parts != 94-6 {
		t.Fatal(parts)
	}
}

func TestClassNames(t *testing.T) {
	for _, s := range []string{"A", "a/B", "a/B$1", "java/lang/Object", "I", "V", "L", "a/b/c/d/e", "(", ")", "(I)V", "-", "a-b", "!", "~", "1", ":=?", "\\]^`{|}", "init"} {
		if e := desc.ClassName(s); e != api.OK {
			t.Errorf("ClassName(%q) = %d", s, e)
		}
	}
	for _, s := range []string{
		"", "/", "//", "/A", "A/", "a//b", "a/b/", "/a/b", "a/./b", "a.b", "A;", "LA;", "[A", "[I", "[", "<init>", "a/<init>", "a<b", "a>b",
		" ", "a b", " A", "A ", "A\n", "A\x00", "A\x7f", "A\x80", "\xff", "\u00e4", "a/\u65e5", "A\t", "\x1f", "\x20",
	} {
		if e := desc.ClassName(s); e != api.ErrIdent {
			t.Errorf("ClassName(%q) = %d", s, e)
		}
	}
}

func TestMemberNames(t *testing.T) {
	for _, s := range []string{"x", "main", "<init>", "init", "a$1", "I", "()", "(I)V", "-", "\\", "]", "!", "~"} {
		if e := desc.MemberName(s); e != api.OK {
			t.Errorf("MemberName(%q) = %d", s, e)
		}
	}
	for _, s := range []string{
		"", "a/b", "/", "/a", "a/", "<clinit>", "<init", "init>", "<init>x", "x<init>", "<INIT>", "<>", "<", ">", "<init> ", "<init>/<init>",
		"a.b", "a;", "[a", "[I", "LA;", " ", "a b", "a\n", "\x00", "\x7f", "\x80", "\u00e4",
	} {
		if e := desc.MemberName(s); e != api.ErrIdent {
			t.Errorf("MemberName(%q) = %d", s, e)
		}
	}
}

func TestLongNames(t *testing.T) {
	for _, x := range []struct {
		s       string
		c, m    api.Errno
		comment string
	}{
		{strings.Repeat("a", 254), api.OK, api.OK, "below"},
		{strings.Repeat("a", 255), api.OK, api.OK, "at the limit"},
		{strings.Repeat("a", 256), api.ErrLong, api.ErrLong, "above"},
		{strings.Repeat("a/", 127) + "a", api.OK, api.ErrIdent, "many parts"},
		{strings.Repeat("a/", 127) + "aa", api.ErrLong, api.ErrLong, "many parts, above"},
		{strings.Repeat("a", 254) + ".", api.ErrIdent, api.ErrIdent, "wrong at its end"},
		{strings.Repeat("a", 254) + "/", api.ErrIdent, api.ErrIdent, "no part at its end"},
		{strings.Repeat("a", 255) + ".", api.ErrLong, api.ErrLong, "the length comes first"},
		{strings.Repeat(".", 256), api.ErrLong, api.ErrLong, "likewise"},
		{strings.Repeat("\u00e4", 127), api.ErrIdent, api.ErrIdent, "254 bytes"},
		{strings.Repeat("\u00e4", 128), api.ErrLong, api.ErrLong, "bytes are counted, not letters"},
		{strings.Repeat("/", 1<<24), api.ErrLong, api.ErrLong, "far above"},
	} {
		if e := desc.ClassName(x.s); e != x.c {
			t.Error("ClassName", x.comment, e)
		}
		if e := desc.MemberName(x.s); e != x.m {
			t.Error("MemberName", x.comment, e)
		}
	}
}

func TestNamesOfAllShortTexts(t *testing.T) {
	for s := range texts("a$/.;[<>", 6) {
		checkNames(t, s)
	}
	// Near to the one name that has < and >.
	for s := range texts("<>i/", 4) {
		checkNames(t, s+"init>")
		checkNames(t, "<init"+s)
		checkNames(t, "<"+s+"init"+s+">")
	}
}
