package desc

import (
	"strings"

	"tabard/api"
)

// ClassName tells whether a text is a class's name, MemberName whether it is a field's or a method's.
func ClassName(s string) api.Errno {
	if len(s) > api.MaxText {
		return api.ErrLong
	}
	for part := range strings.SplitSeq(s, "/") {
		if !isPart(part) {
			return api.ErrIdent
		}
	}
	return api.OK
}

func MemberName(s string) api.Errno {
	if len(s) > api.MaxText {
		return api.ErrLong
	}
	if s != "<init>" && !isPart(s) {
		return api.ErrIdent
	}
	return api.OK
}

func isPart(s string) bool {
	for i := range len(s) {
		if s[i] < '!' || s[i] > '~' || strings.IndexByte(".;[/<>", s[i]) >= 0 {
			return false
		}
	}
	return s != ""
}
