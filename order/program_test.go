package order

import (
	"fmt"
	"go/ast"
	"go/importer"
	"go/parser"
	"go/token"
	"go/types"
	"path/filepath"
	"slices"
	"strings"
)

const module = "scantling"

// program is a checked text, and what a call of each function in it changes.
type program struct {
	root    string
	fset    *token.FileSet
	info    *types.Info
	std     types.Importer
	packs   map[string]*types.Package
	files   []*ast.File
	bodies  map[types.Object]ast.Node // of functions, and of variables that hold one
	changed map[types.Object][]types.Object
}

func newProgram(root string) *program {
	fset := token.NewFileSet()
	return &program{
		root: root, fset: fset, std: importer.ForCompiler(fset, "source", nil), packs: map[string]*types.Package{},
		info:   &types.Info{Types: map[ast.Expr]types.TypeAndValue{}, Uses: map[*ast.Ident]types.Object{}, Defs: map[*ast.Ident]types.Object{}},
		bodies: map[types.Object]ast.Node{}, changed: map[types.Object][]types.Object{},
	}
}

// Import makes p what the imports of its own packages are checked with.
func (p *program) Import(path string) (*types.Package, error) {
	if !strings.HasPrefix(path, module+"/") {
		return p.std.Import(path)
	}
	if p.packs[path] == nil {
		names, _ := filepath.Glob(filepath.Join(p.root, strings.TrimPrefix(path, module), "*.go"))
		var files []*ast.File
		for _, name := range names {
			if strings.HasSuffix(name, "_test.go") {
				continue
			}
			file, err := parser.ParseFile(p.fset, name, nil, 0)
			if err != nil {
				return nil, err
			}
			files = append(files, file)
		}
		if err := p.check(path, files); err != nil {
			return nil, err
		}
	}
	return p.packs[path], nil
}

func (p *program) check(path string, files []*ast.File) (err error) {
	config := types.Config{Importer: p}
	p.packs[path], err = config.Check(path, p.fset, files, p.info)
	p.files = append(p.files, files...)
	return err
}

// faults tells of the variables that are read beside a call that changes them.
func (p *program) faults() []string {
	for _, file := range p.files {
		ast.Inspect(file, p.findBody)
	}
	for p.spreadChanges() {
	}
	var faults []string
	for _, file := range p.files {
		ast.Inspect(file, func(n ast.Node) bool {
			for _, together := range workedOut(n) {
				faults = append(faults, p.clashes(together)...)
			}
			return true
		})
	}
	slices.Sort(faults)
	return slices.Compact(faults)
}

// findBody keeps the bodies of the functions that n declares or assigns.
func (p *program) findBody(n ast.Node) bool {
	hold := func(name *ast.Ident, value ast.Expr) {
		if lit, ok := value.(*ast.FuncLit); ok {
			p.bodies[p.info.ObjectOf(name)] = lit
		}
	}
	switch x := n.(type) {
	case *ast.FuncDecl:
		p.bodies[p.info.Defs[x.Name]] = x
	case *ast.AssignStmt:
		for i := range min(len(x.Lhs), len(x.Rhs)) {
			if name, ok := x.Lhs[i].(*ast.Ident); ok {
				hold(name, x.Rhs[i])
			}
		}
	case *ast.ValueSpec:
		for i, value := range x.Values {
			hold(x.Names[i], value)
		}
	}
	return true
}

// spreadChanges takes in what each function changes, as far as that is known
// by now, and tells whether more is known than was.
func (p *program) spreadChanges() bool {
	more := false
	for o, body := range p.bodies {
		for _, changed := range p.changedIn(body) {
			if !slices.Contains(p.changed[o], changed) {
				p.changed[o] = append(p.changed[o], changed)
				more = true
			}
		}
	}
	return more
}

// changedIn is what is changed anywhere in n.
func (p *program) changedIn(n ast.Node) []types.Object {
	var changed []types.Object
	ast.Inspect(n, func(n ast.Node) bool {
		switch x := n.(type) {
		case *ast.AssignStmt:
			for _, left := range x.Lhs {
				changed = append(changed, p.partsOf(left)...)
			}
		case *ast.IncDecStmt:
			changed = append(changed, p.partsOf(x.X)...)
		case *ast.RangeStmt:
			if x.Tok == token.ASSIGN {
				changed = append(changed, p.partsOf(x.Key)...)
				changed = append(changed, p.partsOf(x.Value)...)
			}
		case *ast.CallExpr:
			changed = append(changed, p.changedBy(x)...)
		}
		return true
	})
	return changed
}

// changedBy is what a call changes: by its function, by those that are handed
// to that, and through the pointer that a method has.
func (p *program) changedBy(call *ast.CallExpr) []types.Object {
	callee := p.callee(call)
	changed := slices.Clone(p.changed[callee])
	for _, arg := range call.Args {
		switch x := arg.(type) {
		case *ast.FuncLit:
			changed = append(changed, p.changedIn(x)...)
		case *ast.Ident:
			changed = append(changed, p.changed[p.info.Uses[x]]...)
		}
	}
	if receiver := pointerOf(callee); receiver != nil && slices.Contains(changed, receiver) {
		changed = append(changed, p.partsOf(call.Fun.(*ast.SelectorExpr).X)...)
	}
	return changed
}

func (p *program) callee(call *ast.CallExpr) types.Object {
	switch x := call.Fun.(type) {
	case *ast.Ident:
		return p.info.Uses[x]
	case *ast.SelectorExpr:
		return p.info.Uses[x.Sel]
	}
	return nil
}

// pointerOf is the receiver of a method that has a pointer.
func pointerOf(callee types.Object) types.Object {
	if f, ok := callee.(*types.Func); ok && f.Signature().Recv() != nil {
		if _, pointer := f.Signature().Recv().Type().(*types.Pointer); pointer {
			return f.Signature().Recv()
		}
	}
	return nil
}

// partsOf is the variable and the fields that e names; not a pointer to a
// struct, of which the fields tell more.
func (p *program) partsOf(e ast.Expr) []types.Object {
	switch x := e.(type) {
	case *ast.Ident:
		if o, ok := p.info.ObjectOf(x).(*types.Var); ok && !isPointerToStruct(o.Type()) {
			return []types.Object{o}
		}
	case *ast.SelectorExpr:
		return append(p.partsOf(x.X), p.info.Uses[x.Sel])
	case *ast.IndexExpr:
		return p.partsOf(x.X)
	case *ast.StarExpr:
		return p.partsOf(x.X)
	case *ast.ParenExpr:
		return p.partsOf(x.X)
	}
	return nil
}

func isPointerToStruct(t types.Type) bool {
	pointer, ok := t.Underlying().(*types.Pointer)
	if !ok {
		return false
	}
	_, ok = pointer.Elem().Underlying().(*types.Struct)
	return ok
}

// workedOut is what the statement n works out in one go; of the cases of a
// switch, one behind the other.
func workedOut(n ast.Node) [][]ast.Expr {
	switch x := n.(type) {
	case *ast.AssignStmt:
		together := slices.Clone(x.Rhs)
		for _, left := range x.Lhs {
			together = append(together, readOf(left, x.Tok)...)
		}
		return [][]ast.Expr{together}
	case *ast.ReturnStmt:
		return [][]ast.Expr{x.Results}
	case *ast.ValueSpec:
		return [][]ast.Expr{x.Values}
	case *ast.SendStmt:
		return [][]ast.Expr{{x.Chan, x.Value}}
	case *ast.ExprStmt:
		return [][]ast.Expr{{x.X}}
	case *ast.IncDecStmt:
		return [][]ast.Expr{{x.X}}
	case *ast.DeferStmt:
		return [][]ast.Expr{append([]ast.Expr{x.Call.Fun}, x.Call.Args...)}
	case *ast.GoStmt:
		return [][]ast.Expr{append([]ast.Expr{x.Call.Fun}, x.Call.Args...)}
	case *ast.RangeStmt:
		return [][]ast.Expr{{x.X}}
	case *ast.IfStmt:
		return [][]ast.Expr{{x.Cond}}
	case *ast.ForStmt:
		return [][]ast.Expr{{x.Cond}}
	case *ast.SwitchStmt:
		return [][]ast.Expr{{x.Tag}}
	case *ast.CaseClause:
		return slices.Collect(slices.Chunk(x.List, 1))
	}
	return nil
}

// readOf is what is read of the left side of an assignment.
func readOf(left ast.Expr, by token.Token) []ast.Expr {
	if by != token.ASSIGN && by != token.DEFINE {
		return []ast.Expr{left}
	}
	switch x := left.(type) {
	case *ast.SelectorExpr:
		return []ast.Expr{x.X}
	case *ast.IndexExpr:
		return []ast.Expr{x.X, x.Index}
	case *ast.StarExpr:
		return []ast.Expr{x.X}
	}
	return nil
}

// event is a call, or a variable that is read, and what it stands in.
type event struct {
	node  ast.Node
	read  types.Object
	above []ast.Node
}

// clashes tells of what is worked out together in an order that is open.
func (p *program) clashes(together []ast.Expr) []string {
	events := p.events(together)
	var clashes []string
	for _, of := range events {
		call, ok := of.node.(*ast.CallExpr)
		if !ok {
			continue
		}
		changed := p.changedBy(call)
		for _, read := range events {
			if read.read != nil && slices.Contains(changed, read.read) && !p.ordered(read, of) {
				clashes = append(clashes, fmt.Sprintf("%s: %s is read beside a call that changes it", p.fset.Position(read.node.Pos()), read.read.Name()))
			}
		}
	}
	return clashes
}

func (p *program) events(together []ast.Expr) []event {
	var events []event
	var above []ast.Node
	visit := func(n ast.Node) bool {
		if n == nil {
			above = above[:len(above)-1]
			return true
		}
		switch x := n.(type) {
		case *ast.FuncLit:
			return false
		case *ast.CallExpr:
			events = append(events, event{x, nil, slices.Clone(above)})
		case *ast.Ident:
			if o, ok := p.info.Uses[x].(*types.Var); ok && !p.isNotRead(x, above) {
				events = append(events, event{x, o, slices.Clone(above)})
			}
		}
		above = append(above, n)
		return true
	}
	for _, e := range together {
		if e != nil {
			ast.Inspect(e, visit)
		}
	}
	return events
}

// isNotRead tells whether only the address of x is taken, or x is the name of
// a field to which a literal gives a value.
func (p *program) isNotRead(x *ast.Ident, above []ast.Node) bool {
	if len(above) == 0 {
		return false
	}
	switch up := above[len(above)-1].(type) {
	case *ast.UnaryExpr:
		return up.Op == token.AND
	case *ast.KeyValueExpr:
		return up.Key == x && p.info.Uses[x].(*types.Var).IsField()
	case *ast.SelectorExpr:
		return up.X == x && pointerOf(p.info.Uses[up.Sel]) != nil
	}
	return false
}

// ordered tells whether the language says which of both comes first.
func (p *program) ordered(read, call event) bool {
	for at, n := range read.above {
		switch x := n.(type) {
		case *ast.CallExpr:
			// What is read for the call, or for one that comes ahead of it.
			fun := p.info.Types[x.Fun]
			isCall := !fun.IsType() && !fun.IsBuiltin()
			if x == call.node || isCall && x.End() <= call.node.Pos() {
				return true
			}
		case *ast.BinaryExpr:
			above := at < len(call.above) && call.above[at] == n
			apart := (read.node.Pos() < x.OpPos) != (call.node.Pos() < x.OpPos)
			if above && apart && (x.Op == token.LAND || x.Op == token.LOR) {
				return true
			}
		}
	}
	return false
}
