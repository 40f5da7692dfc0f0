package tests

import (
	"go/ast"
	"go/parser"
	"go/token"
	"go/types"
	"os"
	"path/filepath"
	"strings"
	"testing"
)

// This file asks of the program's source that it keeps to the subset of Go in which it is to be written.

type checked struct {
	files *token.FileSet
	info  *types.Info
	found []string
	// called holds the names that stand where a function is called.
	called map[*ast.Ident]bool
}

func (c *checked) complain(at token.Pos, what string) {
	c.found = append(c.found, c.files.Position(at).String()+": "+what)
}

// breaches returns what of some sources, a name and a text each, is outside the subset.
func breaches(t *testing.T, sources map[string]string) []string {
	t.Helper()
	c := &checked{
		files:  token.NewFileSet(),
		info:   &types.Info{Types: map[ast.Expr]types.TypeAndValue{}, Uses: map[*ast.Ident]types.Object{}},
		called: map[*ast.Ident]bool{},
	}
	parsed := []*ast.File{}
	for name, source := range sources {
		file, err := parser.ParseFile(c.files, name, source, parser.SkipObjectResolution)
		if err != nil {
			t.Fatal(err)
		}
		parsed = append(parsed, file)
	}
	// Imports are complained of below: without an importer the types of what they name stay unknown.
	config := types.Config{Error: func(error) {}}
	config.Check("impl", c.files, parsed, c.info)
	for _, file := range parsed {
		c.checkFile(file)
	}
	return c.found
}

func (c *checked) checkFile(file *ast.File) {
	if file.Name.Name != "impl" {
		c.complain(file.Pos(), "another package")
	}
	for _, spec := range file.Imports {
		c.complain(spec.Pos(), "an import")
	}
	for _, decl := range file.Decls {
		c.checkDecl(decl)
	}
	ast.Inspect(file, c.noteCalled)
	ast.Inspect(file, c.checkNode)
}

func (c *checked) checkDecl(decl ast.Decl) {
	switch d := decl.(type) {
	case *ast.GenDecl:
		if d.Tok == token.VAR {
			c.complain(d.Pos(), "a variable of the package")
		}
	case *ast.FuncDecl:
		if d.Recv == nil && d.Name.Name == "init" {
			c.complain(d.Pos(), "func init")
		}
		if d.Type.TypeParams != nil {
			c.complain(d.Pos(), "a generic function")
		}
	}
}

func (c *checked) noteCalled(n ast.Node) bool {
	if call, ok := n.(*ast.CallExpr); ok {
		switch f := ast.Unparen(call.Fun).(type) {
		case *ast.Ident:
			c.called[f] = true
		case *ast.SelectorExpr:
			c.called[f.Sel] = true
		}
	}
	return true
}

func (c *checked) checkNode(n ast.Node) bool {
	if what := barredNode(n); what != "" {
		c.complain(n.Pos(), what)
	}
	switch x := n.(type) {
	case *ast.FuncDecl:
		// The type of a declared function is no function value; its parts are walked all the same.
		ast.Inspect(x.Type.Params, c.checkNode)
		if x.Type.Results != nil {
			ast.Inspect(x.Type.Results, c.checkNode)
		}
		if x.Body != nil {
			ast.Inspect(x.Body, c.checkNode)
		}
		return false
	case *ast.BranchStmt:
		if x.Tok == token.GOTO {
			c.complain(x.Pos(), "goto")
		}
	case *ast.SliceExpr:
		if x.Slice3 {
			c.complain(x.Pos(), "a slice expression with three indexes")
		}
	case *ast.TypeSpec:
		if x.TypeParams != nil {
			c.complain(x.Pos(), "a generic type")
		}
	case *ast.BasicLit:
		if x.Kind == token.FLOAT || x.Kind == token.IMAG {
			c.complain(x.Pos(), "a number that is not whole")
		}
	case *ast.AssignStmt:
		c.checkAssign(x)
	case *ast.BinaryExpr:
		c.checkNil(x)
	case *ast.Ident:
		c.checkName(x)
	case ast.Expr:
		c.checkType(x)
	}
	return true
}

func barredNode(n ast.Node) string {
	switch n.(type) {
	case *ast.InterfaceType:
		return "an interface type"
	case *ast.TypeSwitchStmt, *ast.TypeAssertExpr:
		return "a question for a type"
	case *ast.FuncLit:
		return "a closure"
	case *ast.FuncType:
		return "a function type"
	case *ast.MapType:
		return "a map"
	case *ast.ChanType, *ast.SendStmt, *ast.SelectStmt, *ast.GoStmt:
		return "something at the same time"
	case *ast.DeferStmt:
		return "defer"
	}
	return ""
}

// checkAssign lets several values be assigned at once to names alone.
func (c *checked) checkAssign(a *ast.AssignStmt) {
	if len(a.Lhs) < 2 {
		return
	}
	for _, left := range a.Lhs {
		if _, ok := left.(*ast.Ident); !ok {
			c.complain(a.Pos(), "several elements or fields assigned at once")
			return
		}
	}
}

func (c *checked) checkNil(b *ast.BinaryExpr) {
	if c.info.Types[b.X].IsNil() || c.info.Types[b.Y].IsNil() {
		c.complain(b.Pos(), "a comparison with nil")
	}
}

func (c *checked) checkName(name *ast.Ident) {
	switch used := c.info.Uses[name].(type) {
	case *types.Func:
		if !c.called[name] {
			c.complain(name.Pos(), "a function as a value")
		}
	case *types.Builtin:
		switch used.Name() {
		case "cap", "panic", "recover", "close", "complex", "real", "imag", "print", "println":
			c.complain(name.Pos(), used.Name())
		}
	case *types.TypeName:
		if used.Pkg() == nil && barredType(used.Type()) {
			c.complain(name.Pos(), "the type "+used.Name())
		}
	}
	c.checkType(name)
}

// checkType asks of what has no written type whether it is a number that is not whole.
func (c *checked) checkType(e ast.Expr) {
	if value := c.info.Types[e]; value.IsValue() && value.Type != nil && barredType(value.Type) {
		c.complain(e.Pos(), "a value of the type "+value.Type.String())
	}
}

func barredType(of types.Type) bool {
	if basic, ok := of.Underlying().(*types.Basic); ok {
		return basic.Info()&(types.IsFloat|types.IsComplex) != 0
	}
	return types.IsInterface(of)
}

func programSources(t *testing.T) map[string]string {
	t.Helper()
	names, err := filepath.Glob(filepath.Join("..", "impl", "*.go"))
	if err != nil || len(names) == 0 {
		t.Fatal("the program's files are not found", err)
	}
	sources := map[string]string{}
	for _, name := range names {
		source, err := os.ReadFile(name)
		if err != nil {
			t.Fatal(err)
		}
		sources[name] = string(source)
	}
	return sources
}

func TestProgramKeepsToTheSubset(t *testing.T) {
	if found := breaches(t, programSources(t)); len(found) > 0 {
		t.Fatal("outside the subset of Go:\n" + strings.Join(found, "\n"))
	}
}

func TestSubsetLetsPlainCodeThrough(t *testing.T) {
	source := `package impl
type Pair struct { A int; B []byte }
const Most = 3
func (p Pair) sum() int { return p.A + len(p.B) }
func swap(a int, b int) (int, int) { a, b = b, a; return a, b }
func Use(p Pair) []byte {
	n, m := swap(p.sum(), (swapped)(1))
	for i := range p.B { p.B[i] = byte(n); m++ }
	switch m { case Most: return nil }
	return append([]byte{}, p.B[1:2]...)
}
func swapped(a int) int { x, _ := swap(a, 2); return x }`
	if found := breaches(t, map[string]string{"plain.go": source}); len(found) > 0 {
		t.Fatal(strings.Join(found, "\n"))
	}
}

func TestSubsetIsNoticed(t *testing.T) {
	for _, source := range []string{
		`package other`,
		`package impl; import "strings"`,
		`package impl; import _ "unsafe"`,
		`package impl; var x = 1`,
		`package impl; func init() {}`,
		`package impl; type t interface{ m() }`,
		`package impl; func f(a any) {}`,
		`package impl; func f() error { return nil }`,
		`package impl; func f() { a := func() {}; a() }`,
		`package impl; type t struct { f func() }`,
		`package impl; func g() {}; func f() { a := g; a() }`,
		`package impl; type t int; func (t) m() {}; func f(a t) { b := a.m; b() }`,
		`package impl; func f(a map[int]int) {}`,
		`package impl; func f() { go f() }`,
		`package impl; func f(a chan int) {}`,
		`package impl; func f() { select {} }`,
		`package impl; func f() { defer f() }`,
		`package impl; func f() { recover() }`,
		`package impl; func f() { panic(1) }`,
		`package impl; func f() { x: goto x }`,
		`package impl; func f[T int](a T) {}`,
		`package impl; type t[T int] struct { a T }`,
		`package impl; func f(a complex128) {}`,
		`package impl; func f(a float64) {}`,
		`package impl; func f() int { return int(2.0) }`,
		`package impl; func f() bool { a := 1.5; return a > 1 }`,
		`package impl; func f(a []int) { a[0], a[1] = 1, 2 }`,
		`package impl; func f(a []int) { x := 0; x, a[0] = 1, 2; a[0] = x }`,
		`package impl; func f(a []int) int { return cap(a) }`,
		`package impl; func f(a []int) []int { return a[0:1:2] }`,
		`package impl; func f(a []int) bool { return a == nil }`,
		`package impl; func f(a []int) bool { return nil != a }`,
	} {
		if len(breaches(t, map[string]string{"one.go": source})) == 0 {
			t.Fatal("not noticed: " + source)
		}
	}
}
