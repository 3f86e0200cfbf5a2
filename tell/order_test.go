package tell

import (
	"go/ast"
	"go/parser"
	"go/token"
	"path/filepath"
	"strings"
	"testing"
)

// The language leaves open whether a variable is read ahead of a call in the same list that changes it, or behind. What a compiler
// does today hides it from every test of answers, so the program's text is asked.

// unordered are the variables that one part of a list reads, while another part calls something with their address.
func unordered(f *ast.File) []*ast.Ident {
	var found []*ast.Ident
	ast.Inspect(f, func(n ast.Node) bool {
		list := listOf(n)
		for i, part := range list {
			for _, changed := range handedOver(part) {
				for j, other := range list {
					if i != j && reads(other, changed.Name) {
						found = append(found, changed)
					}
				}
			}
		}
		return true
	})
	return found
}

// listOf are the parts of what is reckoned together.
func listOf(n ast.Node) []ast.Expr {
	switch x := n.(type) {
	case *ast.ReturnStmt:
		return x.Results
	case *ast.AssignStmt:
		return x.Rhs
	case *ast.ValueSpec:
		return x.Values
	case *ast.CallExpr:
		return x.Args
	case *ast.CompositeLit:
		return x.Elts
	case *ast.BinaryExpr:
		if x.Op != token.LAND && x.Op != token.LOR { // those two go from left to right
			return []ast.Expr{x.X, x.Y}
		}
	}
	return nil
}

// handedOver are the variables whose address a call in an expression is given.
func handedOver(e ast.Expr) []*ast.Ident {
	var found []*ast.Ident
	ast.Inspect(e, func(n ast.Node) bool {
		call, ok := n.(*ast.CallExpr)
		if !ok {
			return true
		}
		for _, arg := range call.Args {
			if at, ok := arg.(*ast.UnaryExpr); ok && at.Op == token.AND {
				if v, ok := at.X.(*ast.Ident); ok {
					found = append(found, v)
				}
			}
		}
		return true
	})
	return found
}

// reads tells whether an expression reads a variable of a name. To take its address is not to read it.
func reads(e ast.Expr, name string) bool {
	found := false
	ast.Inspect(e, func(n ast.Node) bool {
		switch x := n.(type) {
		case *ast.UnaryExpr:
			if _, ok := x.X.(*ast.Ident); ok && x.Op == token.AND {
				return false
			}
		case *ast.KeyValueExpr:
			found = found || reads(x.Value, name)
			return false
		case *ast.SelectorExpr:
			found = found || reads(x.X, name)
			return false
		case *ast.Ident:
			found = found || x.Name == name
		}
		return true
	})
	return found
}

func TestNoListReadsWhatItChanges(t *testing.T) { // P15.1, P6: an answer hangs on no order that the language leaves open
	names, err := filepath.Glob("../*/*.go")
	if err != nil || len(names) < 17 {
		t.Fatalf("%d files, error %v", len(names), err)
	}
	files := token.NewFileSet()
	for _, name := range names {
		if strings.HasSuffix(name, "_test.go") {
			continue
		}
		f, err := parser.ParseFile(files, name, nil, 0)
		if err != nil {
			t.Fatal(err)
		}
		for _, v := range unordered(f) {
			t.Errorf("%s: %s is read in a list with a call that may change it", files.Position(v.Pos()), v.Name)
		}
	}
}

func TestUnordered(t *testing.T) { // that the test above finds what it looks for
	for line, want := range map[string]int{
		"return n, ok && fill(&n, s)":       1,
		"return fill(&n), n":                1,
		"a, b := n.Kids, fill(&n)":          1,
		"var a, b = n, fill(&n)":            1,
		"use(n, fill(&n))":                  1,
		"a := []int{n, fill(&n)}":           1,
		"a := T{A: n, B: fill(&n)}":         1,
		"a := n + fill(&n)":                 1,
		"return n, false || g(1, fill(&n))": 1,
		"return n, fill(&m)":                0,
		"return x.n, fill(&n)":              0,
		"a := T{n: 1, m: fill(&n)}":         0,
		"return one(&n), two(&n)":           0,
		"fill(&n, n.Data)":                  0,
		"return n > 0 && fill(&n)":          0,
		"ok := fill(&n); return n, ok":      0,
		"n, ok = fill(&n)":                  0,
	} {
		f, err := parser.ParseFile(token.NewFileSet(), "", "package p\nfunc f() {\n"+line+"\n}\n", 0)
		if err != nil {
			t.Fatal(err)
		}
		if got := len(unordered(f)); got != want {
			t.Errorf("%s: %d found, want %d", line, got, want)
		}
	}
}
