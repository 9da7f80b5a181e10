package hier_test

import (
	"go/ast"
	"go/parser"
	"go/token"
	"go/types"
	"path/filepath"
	"strings"
	"testing"
)

// TestTablesAreReadOnTheSpot holds all packages of the project: what stands at package level is neither cut, nor is its address taken, nor is it written to.
func TestTablesAreReadOnTheSpot(t *testing.T) {
	files, err := filepath.Glob("../*/*.go")
	if err != nil || len(files) == 0 {
		t.Fatal(files, err)
	}
	set := token.NewFileSet()
	packs := map[string][]*ast.File{}
	for _, name := range files {
		if strings.HasSuffix(name, "_test.go") {
			continue
		}
		file, err := parser.ParseFile(set, name, nil, 0)
		if err != nil {
			t.Fatal(err)
		}
		packs[filepath.Dir(name)] = append(packs[filepath.Dir(name)], file)
	}
	for _, pack := range packs {
		for _, pos := range misused(set, pack) {
			t.Error(set.Position(pos))
		}
	}
}

// TestMisusedIsSeen holds the reading above against code that breaks the rule, and code that does not.
func TestMisusedIsSeen(t *testing.T) {
	for code, n := range map[string]int{
		"return T[1] + len(T)": 0, "for i, x := range T { U += i + x }; return 0": 1, "t := T; t[1] = 2; return t[:][1]": 0, "T := T; return T[:][0]": 0,
		"return T[:][0]": 1, "return T[1:2][0]": 1, "p := &T; return p[0]": 1, "p := &T[1]; return *p": 1, "T[1] = 2; return 0": 1, "T[1]++; return 0": 1, "T[0], T[1] = 1, 2; return (T)[:][1]": 3, "p := &V.a; return *p": 1,
	} {
		set := token.NewFileSet()
		file, err := parser.ParseFile(set, "p.go", "package p\nvar T = [...]int{1, 2}\nvar U = 3\nvar V = struct{ a int }{4}\nfunc f() int { "+code+" }", 0)
		if err != nil {
			t.Fatal(err)
		}
		if l := misused(set, []*ast.File{file}); len(l) != n {
			t.Error(code, len(l), n)
		}
	}
}

// misused are the places where a variable at package level is used in a way that it may not be.
func misused(set *token.FileSet, files []*ast.File) []token.Pos {
	info := &types.Info{Uses: map[*ast.Ident]types.Object{}}
	// Other packages are not read: for what is this package's own, it does without them.
	config := types.Config{Error: func(error) {}}
	pack, _ := config.Check("p", set, files, info)
	var l []token.Pos
	see := func(x ast.Expr) {
		if id := root(x); id != nil && info.Uses[id] != nil && info.Uses[id].Parent() == pack.Scope() {
			l = append(l, x.Pos())
		}
	}
	for _, file := range files {
		ast.Inspect(file, func(n ast.Node) bool {
			switch x := n.(type) {
			case *ast.SliceExpr:
				see(x.X)
			case *ast.UnaryExpr:
				if x.Op == token.AND {
					see(x.X)
				}
			case *ast.IncDecStmt:
				see(x.X)
			case *ast.AssignStmt:
				for _, y := range x.Lhs {
					see(y)
				}
			}
			return true
		})
	}
	return l
}

// root is the name that an expression is a part of.
func root(x ast.Expr) *ast.Ident {
	switch y := x.(type) {
	case *ast.Ident:
		return y
	case *ast.IndexExpr:
		return root(y.X)
	case *ast.SelectorExpr:
		return root(y.X)
	case *ast.ParenExpr:
		return root(y.X)
	}
	return nil
}
