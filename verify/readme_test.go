package verify_test

import (
	"slices"
	"testing"

	"tabard/api"
	"tabard/sample"
	"tabard/verify"
)

// TestReadme is what README.md shows.
func TestReadme(t *testing.T) {
	p := sample.LinkAll(sample.Main(1, 1, "iconst_5 | istore 0 | top: iinc 0 -1 | iload 0 | ifne top | iload 0 | ireturn"))
	l, n, e := verify.Method(p, p.Main)
	if len(l) != 7 || n != 0 || e != api.OK {
		t.Fatal(l, n, e)
	}
	if verify.Program(p) != (api.Fault{}) || !verify.Same(l, l) || !verify.Below(p, l, l) || verify.Deepest(l) != 1 || !slices.Equal(slices.Collect(verify.Reached(l)), []int{0, 1, 2, 3, 4, 5, 6}) {
		t.Error(l)
	}
}
