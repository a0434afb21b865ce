package tests

import (
	"go/ast"
	"go/importer"
	"go/parser"
	"go/token"
	"go/types"
	"path/filepath"
	"slices"
	"strings"
	"testing"
)

// The tests of this file are for promise 1: equal results for equal arguments, in every order of evaluation that Go allows.
// Go orders the calls of a statement, but leaves open whether a variable beside a call is read before it or after it.
// No build shows what another one would do, so these tests read the text of the program. They look at variables and fields,
// but do not tell apart which elements of a slice a call changes through another name.

// program is the text of a package, with what stands behind its names.
type program struct {
	set     *token.FileSet
	files   []*ast.File
	info    *types.Info
	bodies  map[types.Object]ast.Node
	methods map[string][]ast.Node // by name, as a call through an interface can reach each of them
	shared  map[types.Object]bool // variables that a function can change without being the one that declares them
}

// programOf returns the program of some files, whose texts are read from their paths if they are nil.
func programOf(t *testing.T, sources map[string]any) *program {
	t.Helper()
	info := &types.Info{Uses: map[*ast.Ident]types.Object{}, Defs: map[*ast.Ident]types.Object{}, Selections: map[*ast.SelectorExpr]*types.Selection{}}
	x := &program{token.NewFileSet(), nil, info, map[types.Object]ast.Node{}, map[string][]ast.Node{}, map[types.Object]bool{}}
	for path, source := range sources {
		file, err := parser.ParseFile(x.set, path, source, 0)
		if err != nil {
			t.Fatal(err)
		}
		x.files = append(x.files, file)
	}
	config := types.Config{Importer: importer.ForCompiler(x.set, "source", nil)}
	if _, err := config.Check("impl", x.set, x.files, info); err != nil {
		t.Fatal(err)
	}
	for _, file := range x.files {
		ast.Inspect(file, x.know)
	}
	return x
}

// know keeps what is needed of a part of the text to tell what calls change.
func (x *program) know(n ast.Node) bool {
	switch n := n.(type) {
	case *ast.FuncDecl:
		x.bodies[x.info.Defs[n.Name]] = n.Body
		if n.Recv != nil {
			x.methods[n.Name.Name] = append(x.methods[n.Name.Name], n.Body)
		}
	case *ast.AssignStmt:
		for i, value := range n.Rhs {
			if name, ok := n.Lhs[i].(*ast.Ident); ok && isFunctionLiteral(value) {
				x.bodies[x.objectOf(name)] = value
			}
		}
	case *ast.FuncLit:
		for variable := range x.changedIn(n.Body) {
			if variable.Pos() < n.Pos() || variable.Pos() > n.End() {
				x.shared[variable] = true
			}
		}
	case ast.Expr:
		for _, lent := range x.lentBy(n) {
			x.shared[lent] = true
		}
	}
	return true
}

// isFunctionLiteral reports whether an expression is a function literal.
func isFunctionLiteral(e ast.Expr) bool {
	_, ok := e.(*ast.FuncLit)
	return ok
}

// objectOf returns what a name stands for, that of the generic type for one of its instances.
func (x *program) objectOf(name *ast.Ident) types.Object {
	switch o := x.info.ObjectOf(name).(type) {
	case *types.Func:
		return o.Origin()
	case *types.Var:
		return o.Origin()
	}
	return nil
}

// chain returns the variable and the fields through which an expression leads to a place in memory.
func (x *program) chain(place ast.Expr) []types.Object {
	switch p := place.(type) {
	case *ast.Ident:
		return []types.Object{x.objectOf(p)}
	case *ast.SelectorExpr:
		return append(x.chain(p.X), x.objectOf(p.Sel))
	case *ast.IndexExpr:
		return x.chain(p.X)
	case *ast.SliceExpr:
		return x.chain(p.X)
	case *ast.StarExpr:
		return x.chain(p.X)
	case *ast.ParenExpr:
		return x.chain(p.X)
	}
	return nil
}

// lentBy returns the chain of the place whose address an expression takes, for & or for a method with a pointer.
func (x *program) lentBy(e ast.Expr) []types.Object {
	switch e := e.(type) {
	case *ast.UnaryExpr:
		if e.Op == token.AND {
			return x.chain(e.X)
		}
	case *ast.SelectorExpr:
		selected := x.info.Selections[e]
		if selected == nil || selected.Kind() != types.MethodVal || isPointer(selected.Recv()) {
			return nil
		}
		if method, ok := selected.Obj().Type().(*types.Signature); ok && isPointer(method.Recv().Type()) {
			return x.chain(e.X)
		}
	}
	return nil
}

// isPointer reports whether a type is one of pointers.
func isPointer(t types.Type) bool {
	_, ok := t.Underlying().(*types.Pointer)
	return ok
}

// changedIn returns the variables and fields that a part of the text changes itself, without what it calls.
func (x *program) changedIn(part ast.Node) map[types.Object]bool {
	changed := map[types.Object]bool{}
	note := func(places ...ast.Expr) {
		for _, place := range places {
			for _, o := range x.chain(place) {
				changed[o] = true
			}
		}
		// The name _ stands for nothing.
		delete(changed, nil)
	}
	ast.Inspect(part, func(n ast.Node) bool {
		switch n := n.(type) {
		case *ast.AssignStmt:
			note(n.Lhs...)
		case *ast.IncDecStmt:
			note(n.X)
		case *ast.RangeStmt:
			note(n.Key, n.Value)
		case *ast.CallExpr:
			if name, ok := n.Fun.(*ast.Ident); ok && slices.Contains([]string{"copy", "clear", "delete"}, name.Name) {
				note(n.Args[0])
			}
		}
		if e, ok := n.(ast.Expr); ok {
			for _, lent := range x.lentBy(e) {
				changed[lent] = true
			}
		}
		return true
	})
	return changed
}

// namedIn returns the bodies of the functions that a part of the text names, and so can call.
func (x *program) namedIn(part ast.Node) []ast.Node {
	var named []ast.Node
	ast.Inspect(part, func(n ast.Node) bool {
		name, ok := n.(*ast.Ident)
		if !ok {
			return true
		}
		o := x.objectOf(name)
		if body := x.bodies[o]; body != nil {
			named = append(named, body)
		} else if _, ok := o.(*types.Func); ok {
			named = append(named, x.methods[name.Name]...)
		} else if variable, ok := o.(*types.Var); ok && isFunction(variable.Type()) {
			// Any function could be in it.
			for _, body := range x.bodies {
				named = append(named, body)
			}
		}
		return true
	})
	return named
}

// isFunction reports whether a type is one of functions.
func isFunction(t types.Type) bool {
	_, ok := t.Underlying().(*types.Signature)
	return ok
}

// changedBy returns the variables and fields that a call can change, in all functions that it reaches.
func (x *program) changedBy(call ast.Node) map[types.Object]bool {
	changed, seen := map[types.Object]bool{}, map[ast.Node]bool{}
	for open := []ast.Node{call}; len(open) > 0; {
		part := open[0]
		open = open[1:]
		if seen[part] {
			continue
		}
		seen[part] = true
		for o := range x.changedIn(part) {
			changed[o] = true
		}
		open = append(open, x.namedIn(part)...)
	}
	return changed
}

// isOwn reports whether an expression leads, without a pointer, to a part of a variable that no other function changes.
func (x *program) isOwn(e ast.Expr) bool {
	switch e := e.(type) {
	case *ast.Ident:
		return !x.shared[x.objectOf(e)]
	case *ast.SelectorExpr:
		selected := x.info.Selections[e]
		return selected != nil && !selected.Indirect() && x.isOwn(e.X)
	}
	return false
}

// uses is what is read and called in a part of the text.
type uses struct {
	reads []*ast.Ident
	calls []ast.Node
}

// partsOf returns the parts of which a part of the text is made, without statements and what function literals do.
func partsOf(n ast.Node) []ast.Node {
	if assignment, ok := n.(*ast.AssignStmt); ok && (assignment.Tok == token.ASSIGN || assignment.Tok == token.DEFINE) {
		return assignedParts(assignment)
	}
	var parts []ast.Node
	ast.Inspect(n, func(m ast.Node) bool {
		_, isStatement := m.(ast.Stmt)
		_, isLiteral := m.(*ast.FuncLit)
		if m != nil && m != n && !isStatement && !isLiteral {
			parts = append(parts, m)
		}
		return m == n
	})
	return parts
}

// assignedParts returns the parts of an assignment, without the variables and fields that it only writes.
func assignedParts(n *ast.AssignStmt) []ast.Node {
	var parts []ast.Node
	for _, place := range n.Lhs {
		switch p := place.(type) {
		case *ast.Ident:
		case *ast.SelectorExpr:
			parts = append(parts, p.X)
		default:
			parts = append(parts, p)
		}
	}
	for _, value := range n.Rhs {
		parts = append(parts, value)
	}
	return parts
}

// isOrdered reports whether Go orders the operands of a part of the text.
func isOrdered(n ast.Node) bool {
	operation, ok := n.(*ast.BinaryExpr)
	return ok && (operation.Op == token.LAND || operation.Op == token.LOR)
}

// usesIn returns what is read and called in a part of the text, and tells complain of all that is read beside a call
// that changes it, if Go does not order them.
func (x *program) usesIn(n ast.Node, complain func(*ast.Ident)) uses {
	var all uses
	for _, part := range partsOf(n) {
		one := x.usesIn(part, complain)
		if !isOrdered(n) {
			x.compare(one.reads, all.calls, complain)
			x.compare(all.reads, one.calls, complain)
		}
		all.reads = append(all.reads, one.reads...)
		all.calls = append(all.calls, one.calls...)
	}
	switch n := n.(type) {
	case *ast.CallExpr:
		all.calls = append(all.calls, n)
	case *ast.Ident:
		if variable, ok := x.objectOf(n).(*types.Var); ok && !variable.IsField() && x.shared[variable] {
			all.reads = append(all.reads, n)
		}
	case *ast.SelectorExpr:
		if selected := x.info.Selections[n]; selected != nil && selected.Kind() == types.FieldVal && !x.isOwn(n) {
			all.reads = append(all.reads, n.Sel)
		}
	}
	return all
}

// compare tells complain of all that is read and that one of some calls changes.
func (x *program) compare(reads []*ast.Ident, calls []ast.Node, complain func(*ast.Ident)) {
	if len(reads) == 0 {
		return
	}
	for _, call := range calls {
		changed := x.changedBy(call)
		for _, read := range reads {
			if changed[x.objectOf(read)] {
				complain(read)
			}
		}
	}
}

// openReads returns the places of all variables and fields that are read beside a call that changes them.
func (x *program) openReads() []string {
	var found []string
	complain := func(read *ast.Ident) {
		at := x.set.Position(read.Pos())
		found = append(found, filepath.Base(at.Filename)+" "+shown(at.Line)+" "+read.Name)
	}
	for _, file := range x.files {
		ast.Inspect(file, func(n ast.Node) bool {
			if _, ok := n.(ast.Stmt); ok {
				x.usesIn(n, complain)
			}
			return true
		})
	}
	slices.Sort(found)
	return slices.Compact(found)
}

// openSample has functions whose results Go leaves open in the lines with a comment, and others that are like them.
const openSample = `package impl

type counter struct {
	n    int
	list []int
	half struct{ n, other int }
}

type adder interface{ add() int }

type holder struct{ do func() int }

type bits [2]int

func (c *counter) add() int { c.n++; return c.n }
func (c *counter) addHalf() int { c.half.n++; return 1 }
func (c *counter) grow() int { c.list = append(c.list, 1); return 0 }
func (c *counter) addTwice() int { c.add(); return c.add() }
func (c *counter) seen() int { return c.n }
func (b *bits) put() int { b[0] = 1; return 1 }
func added(a adder) int { return a.add() }
func called(f func() int) int { return f() }
func both(a, b int) int { return a + b }

func results(c *counter) (int, int) { return c.add(), c.n } // n
func turned(c *counter) (int, int) { return c.n, c.addTwice() } // n
func through(c *counter) (int, int) { return added(c), c.n } // n
func value(c *counter) (int, int) { return called(c.add), c.n } // n
func field(c *counter, h holder) int { return h.do() + c.n } // n
func given(c *counter, f func() int) int { return f() + c.n } // n
func inner(c *counter) (int, any) { return c.addHalf(), c.half } // half
func argument(c *counter) int { return both(c.n, c.add()) } // n
func index(c *counter) int { return c.list[c.grow()] } // list
func whole(c *counter) []int { return []int{c.add(), c.n} } // n
func nested(c *counter) (bool, int) { return c.n > 1 && c.n < 9, c.add() } // n

func sum(c *counter) {
	c.n += c.add() // n
	c.list[c.grow()] = 1 // list
	a, b := c.n, c.add() // n
	_, _ = a, b
}

func literal() (int, int) {
	n := 0
	add := func() int { n++; return n }
	return n, add() // n
}

func address() (bits, int) {
	var b bits
	return b, b.put() // b
}

func addressOfPart() (int, int) {
	var c counter
	return c.n, called(c.add) // c n
}

func inTurn(c *counter) (int, int) {
	n := c.add()
	return n, c.n
}

func onlyRead(c *counter) (int, int) { return c.seen(), c.n }
func otherField(c *counter) (int, int) { return c.addHalf(), c.n }
func ofResult(c *counter) int { return c.itself().n }
func (c *counter) itself() *counter { c.n++; return c }
func ordered(c *counter) bool { return c.n > 1 || c.add() > 1 && c.n < 9 }
func before(c *counter) int { return both(c.n, 1) }
func stored(c *counter) { c.n = c.add() }
func later(c *counter) (int, func() int) { return c.n, func() int { return 1 } }
func copied(c *counter, d counter) (int, int) { return d.n, c.add() }
func own(n int) (int, int) { n++; return n, called(func() int { return 1 }) }
`

func TestReadsBesideCallsAreFound(t *testing.T) {
	var want []string
	for i, line := range strings.Split(openSample, "\n") {
		_, names, _ := strings.Cut(line, "// ")
		for _, name := range strings.Fields(names) {
			want = append(want, "sample.go "+shown(i+1)+" "+name)
		}
	}
	slices.Sort(want)
	found := programOf(t, map[string]any{"sample.go": openSample}).openReads()
	expect(t, "what is open", strings.Join(found, "\n"), strings.Join(want, "\n"))
}

func TestNoResultDependsOnAnOrderThatGoLeavesOpen(t *testing.T) {
	paths, err := filepath.Glob("../impl/*.go")
	if err != nil || len(paths) < 11 {
		t.Fatal("not all files of the program are there", paths, err)
	}
	sources := map[string]any{}
	for _, path := range paths {
		sources[path] = nil
	}
	for _, read := range programOf(t, sources).openReads() {
		t.Errorf("read beside a call that changes it: %s", read)
	}
}
