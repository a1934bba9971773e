// Package ways holds tests of how the layers are written, where their chapters ask for a feature of the language.
package ways

import (
	"go/ast"
	"go/importer"
	"go/parser"
	"go/token"
	"go/types"
	"path/filepath"
	"strings"
	"testing"
)

// layer is a package of a layer: its functions and methods, and what each name in it stands for.
type layer struct {
	functions map[types.Object]*ast.FuncDecl
	info      types.Info
}

func load(t *testing.T, name string) layer {
	t.Helper()
	names, err := filepath.Glob(filepath.Join("..", name, "*.go"))
	if err != nil || len(names) == 0 {
		t.Fatal("no files of", name, err)
	}
	fset := token.NewFileSet()
	var files []*ast.File
	for _, n := range names {
		if strings.HasSuffix(n, "_test.go") {
			continue
		}
		f, err := parser.ParseFile(fset, n, nil, 0)
		if err != nil {
			t.Fatal(err)
		}
		files = append(files, f)
	}
	l := layer{map[types.Object]*ast.FuncDecl{}, types.Info{Types: map[ast.Expr]types.TypeAndValue{}, Uses: map[*ast.Ident]types.Object{}, Defs: map[*ast.Ident]types.Object{}}}
	config := types.Config{Importer: importer.ForCompiler(fset, "source", nil)}
	if _, err := config.Check("meterworks/"+name, fset, files, &l.info); err != nil {
		t.Fatal(err)
	}
	for _, f := range files {
		for _, d := range f.Decls {
			if d, ok := d.(*ast.FuncDecl); ok {
				l.functions[l.info.Defs[d.Name]] = d
			}
		}
	}
	return l
}

// reached returns what the exported functions reach: all that they name, all that this names, and so on.
// A method that is called through an interface is found by its name.
func (l layer) reached() []*ast.FuncDecl {
	var out []*ast.FuncDecl
	seen := map[types.Object]bool{}
	var visit func(o types.Object)
	visit = func(o types.Object) {
		if f, ok := o.(*types.Func); ok {
			o = f.Origin()
		}
		d := l.functions[o]
		if d == nil || seen[o] {
			return
		}
		seen[o] = true
		out = append(out, d)
		ast.Inspect(d, func(n ast.Node) bool {
			name, ok := n.(*ast.Ident)
			if !ok {
				return true
			}
			visit(l.info.Uses[name])
			for other, m := range l.functions {
				if m.Recv != nil && m.Name.Name == name.Name {
					visit(other)
				}
			}
			return true
		})
	}
	for o, d := range l.functions {
		if d.Recv == nil && d.Name.IsExported() {
			visit(o)
		}
	}
	return out
}

// rangesOverFunctions reports whether a function has a loop that ranges over a function.
func (l layer) rangesOverFunctions(d *ast.FuncDecl) bool {
	found := false
	ast.Inspect(d, func(n ast.Node) bool {
		if loop, ok := n.(*ast.RangeStmt); ok {
			_, over := l.info.TypeOf(loop.X).Underlying().(*types.Signature)
			found = found || over
		}
		return true
	})
	return found
}

// The chapters of these layers ask for an iterator that is ranged over.
func TestIteratorsAreRangedOver(t *testing.T) {
	for _, name := range []string{"gear", "drum", "curve", "bench", "travel", "lot", "term", "size", "zone", "step", "sound", "card", "bill"} {
		l := load(t, name)
		found := false
		for _, d := range l.reached() {
			found = found || l.rangesOverFunctions(d)
		}
		if !found {
			t.Error("nothing that the exported functions reach ranges over a function:", name)
		}
	}
}
