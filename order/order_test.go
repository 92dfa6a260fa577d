// Package order holds, of the program's own text, that no answer hangs on an
// order that Go leaves open (P1, P4). The calls in one statement come one
// behind the other, but whether a variable is read ahead of such a call or
// behind it is open. So no statement may call what changes a variable and read
// that beside it, but where the language orders the two.
//
// What is changed through a pointer or a slice that stands in another variable
// is not seen.
package order

import (
	"fmt"
	"go/ast"
	"go/parser"
	"os"
	"path/filepath"
	"slices"
	"strings"
	"testing"
)

// P1, P4: no package of the program.
func TestProgram(t *testing.T) {
	p := newProgram("..")
	folders, err := os.ReadDir(p.root)
	if err != nil {
		t.Fatal(err)
	}
	for _, folder := range folders {
		sources, _ := filepath.Glob(filepath.Join(p.root, folder.Name(), "*.go"))
		isTest := func(name string) bool { return strings.HasSuffix(name, "_test.go") }
		if len(slices.DeleteFunc(sources, isTest)) == 0 {
			continue
		}
		if _, err := p.Import(module + "/" + folder.Name()); err != nil {
			t.Fatal(err)
		}
	}
	if len(p.packs) < 24 {
		t.Errorf("%d packages, not 24: api and the layers", len(p.packs))
	}
	for _, fault := range p.faults() {
		t.Error(fault)
	}
}

// around is what the statements below stand in.
const around = `package piece

type near struct { many int }

func (n *near) count() int { n.many++; return n.many }

type reader struct {
	rest string
	stop byte
	near near
}

func (r *reader) take() int { r.rest = r.rest[1:]; return 1 }

func (r *reader) again() int { return r.take() }

type state [4]int

func (v *state) turn() int { v[0]++; return v[1] }

func run(work func() int) int { return work() }

func id(n int) int { return n }

func piece(key string, list []int) int {
	x, y := 0, 0
	bump := func() int { x++; return x }
	cut := func(at int) int { key = key[at:]; return at }
	r, p, v := reader{}, &reader{}, state{}
	_, _, _, _, _, _, _, _ = x, y, bump, cut, r, p, v, list
	%s
	return 0
}
`

// faultsOf are those of a function with these statements.
func faultsOf(t *testing.T, statements string) []string {
	t.Helper()
	p := newProgram("..")
	file, err := parser.ParseFile(p.fset, "piece.go", fmt.Sprintf(around, statements), 0)
	if err == nil {
		err = p.check("piece", []*ast.File{file})
	}
	if err != nil {
		t.Fatalf("%s: %v", statements, err)
	}
	return p.faults()
}

// The fault is seen, in each kind of statement.
func TestOpenOrders(t *testing.T) {
	for _, statements := range []string{
		"return min(bump(), x)", "return min(x, bump())", "return x + bump()", "return id(bump()) + x", "return bump() + id(x)",
		"return bump() + (y + x)", "return (bump() + x) & 1", "return cut(1) + len(key)", "return int(key[0]) + cut(1)", "return len(key) + cut(1)",
		"x += bump()", "a, b := bump(), x; return a + b", "var a, b = bump(), x; return a + b", "c := []int{x, bump()}; return c[0]",
		"list[x] = bump()", "list[x], y = 1, bump()", "list[bump()+x]++", "for list[x] = range bump() { }; for range x + bump() { }",
		"if bump() == x { return 1 }", "for bump() < x { }", "switch bump() + x { }", "switch y { case x + bump(): }",
		"b := bump() > 0 && y > 0 || x+bump() > 1; if b { return 1 }", "c := make(chan int, 1); c <- x + bump()", "defer id(x + bump())", "go id(x + bump())",
		"return run(bump) + x", "return run(func() int { y++; return y }) + y", "f := func() int { return bump() }; return f() + x",
		"f := func() int { for y = range list { }; return 1 }; return f() + y", "var f = func() int { y--; return 1 }; return f() + y",
		"return r.take() + len(r.rest)", "return len(p.rest) + p.again()", "return p.near.count() + p.near.many", "return v.turn() + v[0]",
		"p.rest, y = p.rest[1:], p.take()", "type two struct{ a, b int }; return two{a: x, b: bump()}.b",
	} {
		if len(faultsOf(t, statements)) == 0 {
			t.Errorf("no fault: %s", statements)
		}
	}
}

// What the language orders is none.
func TestOrdersThatAreSaid(t *testing.T) {
	for _, statements := range []string{
		"a := bump(); return a + x", "return bump() + y", "return bump() + bump()", "x = bump()", "list[y] = bump()", "x = x + 1",
		"if bump() > 1 && x > 1 { return 1 }", "if x > 1 || bump() > 1 { return 1 }", "if bump() > 1 && (y > 1 || x > 1) { return 1 }",
		"return cut(len(key))", "return id(x) + bump()", "return id(len(key)+y) + cut(1)", "c := &x; return bump() + id(*c)", "a, b := &x, bump(); return *a + b",
		"return r.take() + r.again()", "return r.take() + int(r.stop)", "return p.take() + int(p.stop)", "p.rest = key[p.take():]", "return v.turn() + v.turn()",
		"run(func() int { return x }); return x", "f := func() int { return x + 1 }; return f() + x", "switch { case bump() > 1: case x > 1: }",
		"type two struct{ x, b int }; return two{x: 1, b: bump()}.b",
	} {
		if faults := faultsOf(t, statements); len(faults) > 0 {
			t.Errorf("%s: %v", statements, faults)
		}
	}
}
