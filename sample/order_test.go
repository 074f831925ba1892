package sample_test

import (
	"go/ast"
	"go/importer"
	"go/parser"
	"go/token"
	"go/types"
	"iter"
	"os"
	"path/filepath"
	"slices"
	"strings"
	"testing"
)

// Go leaves open whether an operand of a statement is read ahead of the calls in it that are not its own, or behind them. These tests look for statements of the program that read a variable and call what may change it, so that what they do would hang on the compiler. What a call may change is told by the fields, variables and elements that are assigned in it, whosever they are: rather a statement too many is found than one too few.

// source is packages with what is known of their types.
type source struct {
	fset   *token.FileSet
	info   *types.Info
	std    types.Importer
	packs  map[string]*types.Package
	files  []*ast.File
	root   string
	bodies []*body
	known  map[types.Object]bool // variables whose address is taken
	// values has the types of the functions that are used as values.
	values map[types.Object][]types.Type
}

// body is the code of a function, a method, a function literal, or of a loop over a function.
type body struct {
	node    ast.Node       // whose variables are its own
	block   *ast.BlockStmt // what it does
	object  types.Object   // the function that is declared so, if it is
	signs   []types.Type   // by which it is called as a value
	changes map[any]bool   // fields, variables of others, and types of elements that it may change
}

// newSource returns a source without packages; the library's are those of std, whose files are in fset.
func newSource(root string, fset *token.FileSet, std types.Importer) *source {
	s := &source{fset: fset, std: std, packs: map[string]*types.Package{}, root: root, known: map[types.Object]bool{}, values: map[types.Object][]types.Type{}}
	s.info = &types.Info{Types: map[ast.Expr]types.TypeAndValue{}, Uses: map[*ast.Ident]types.Object{}, Defs: map[*ast.Ident]types.Object{}, Selections: map[*ast.SelectorExpr]*types.Selection{}}
	return s
}

// Import returns the package of that path.
func (s *source) Import(path string) (*types.Package, error) {
	if p := s.packs[path]; p != nil {
		return p, nil
	}
	dir, own := strings.CutPrefix(path, "livery/")
	if !own {
		return s.std.Import(path)
	}
	var files []*ast.File
	names, _ := filepath.Glob(filepath.Join(s.root, dir, "*.go"))
	for _, name := range names {
		if strings.HasSuffix(name, "_test.go") {
			continue
		}
		f, err := parser.ParseFile(s.fset, name, nil, 0)
		if err != nil {
			return nil, err
		}
		files = append(files, f)
	}
	return s.check(path, files)
}

// check takes the files of a package.
func (s *source) check(path string, files []*ast.File) (*types.Package, error) {
	c := types.Config{Importer: s}
	p, err := c.Check(path, s.fset, files, s.info)
	s.packs[path] = p
	s.files = append(s.files, files...)
	return p, err
}

// found returns the places of the statements that hang on an order that is left open.
func (s *source) found() []string {
	for _, f := range s.files {
		s.used(f)
	}
	for _, f := range s.files {
		s.gather(f)
	}
	for _, b := range s.bodies {
		s.direct(b)
	}
	for again := true; again; {
		again = false
		for _, b := range s.bodies {
			n := len(b.changes)
			s.own(b, func(n ast.Node) {
				if c, is := n.(*ast.CallExpr); is {
					s.effect(c, b.changes)
				}
			})
			again = again || len(b.changes) > n
		}
	}
	var l []string
	for _, b := range s.bodies {
		s.own(b, func(n ast.Node) {
			for _, u := range units(n) {
				if s.open(u) {
					l = append(l, s.fset.Position(n.Pos()).String())
				}
			}
		})
	}
	slices.Sort(l)
	return slices.Compact(l)
}

// gather notes the bodies of f.
func (s *source) gather(f *ast.File) {
	add := func(n ast.Node, block *ast.BlockStmt, o types.Object, signs ...types.Type) {
		if block != nil {
			s.bodies = append(s.bodies, &body{n, block, o, signs, map[any]bool{}})
		}
	}
	ast.Inspect(f, func(n ast.Node) bool {
		switch x := n.(type) {
		case *ast.UnaryExpr:
			if x.Op == token.AND {
				s.address(x.X)
			}
		case *ast.SliceExpr:
			s.address(x.X)
		case *ast.SelectorExpr:
			if m := s.info.Selections[x]; m != nil && m.Kind() == types.MethodVal && pointed(m) {
				s.address(x.X)
			}
		case *ast.FuncDecl:
			o := s.info.Defs[x.Name]
			add(x, x.Body, o, s.values[o]...)
		case *ast.FuncLit:
			add(x, x.Body, nil, s.info.TypeOf(x))
		case *ast.RangeStmt:
			if g, is := s.info.TypeOf(x.X).Underlying().(*types.Signature); is {
				add(x, x.Body, nil, g.Params().At(0).Type())
			}
		}
		return true
	})
}

// used notes which functions that are declared f uses as values, and of which types they are there.
func (s *source) used(f *ast.File) {
	calls := map[ast.Expr]bool{}
	note := func(e ast.Expr, name *ast.Ident) {
		if o, is := s.info.Uses[name].(*types.Func); is && !calls[e] {
			s.values[o.Origin()] = append(s.values[o.Origin()], s.info.TypeOf(e))
		}
	}
	ast.Inspect(f, func(n ast.Node) bool {
		switch x := n.(type) {
		case *ast.CallExpr:
			calls[called(x)] = true
		case *ast.SelectorExpr:
			note(x, x.Sel)
			calls[x.Sel] = true // the name alone is no value
		case *ast.Ident:
			note(x, x)
		}
		return true
	})
}

// called returns what the call c calls.
func called(c *ast.CallExpr) ast.Expr {
	switch x := ast.Unparen(c.Fun).(type) {
	case *ast.IndexExpr: // of a generic function, unless it is one of a list
		return x.X
	case *ast.IndexListExpr:
		return x.X
	default:
		return x
	}
}

// address notes that the address of e, or of a part of it, is taken.
func (s *source) address(e ast.Expr) {
	if v := s.variable(e); v != nil {
		s.known[v] = true
	}
}

// pointed reports whether m is a method of pointers.
func pointed(m *types.Selection) bool {
	_, is := m.Obj().(*types.Func).Signature().Recv().Type().(*types.Pointer)
	return is
}

// variable returns the variable of which e is a part, or nil if it is behind a pointer, in a slice, or the like.
func (s *source) variable(e ast.Expr) types.Object {
	switch x := ast.Unparen(e).(type) {
	case *ast.Ident:
		if v, is := s.info.ObjectOf(x).(*types.Var); is && !v.IsField() {
			return v
		}
	case *ast.SelectorExpr:
		sel := s.info.Selections[x]
		if sel == nil || sel.Kind() != types.FieldVal || sel.Indirect() {
			return nil
		}
		return s.variable(x.X)
	case *ast.IndexExpr:
		if _, is := s.info.TypeOf(x.X).Underlying().(*types.Array); is {
			return s.variable(x.X)
		}
	}
	return nil
}

// own calls see with all nodes of b that are in no other function within it.
func (s *source) own(b *body, see func(n ast.Node)) {
	ast.Inspect(b.block, func(n ast.Node) bool {
		if _, is := n.(*ast.FuncLit); is {
			return false
		}
		if n != nil {
			see(n)
		}
		return true
	})
}

// direct notes what b itself assigns.
func (s *source) direct(b *body) {
	s.own(b, func(n ast.Node) {
		switch x := n.(type) {
		case *ast.AssignStmt:
			if x.Tok != token.DEFINE {
				for _, e := range x.Lhs {
					s.assigned(b, e)
				}
			}
		case *ast.IncDecStmt:
			s.assigned(b, x.X)
		case *ast.RangeStmt:
			if x.Tok == token.ASSIGN {
				s.assigned(b, x.Key)
				if x.Value != nil {
					s.assigned(b, x.Value)
				}
			}
		}
	})
}

// assigned notes that b assigns to e.
func (s *source) assigned(b *body, e ast.Expr) {
	if v := s.variable(e); v != nil {
		if v.Pos() < b.node.Pos() || b.node.End() <= v.Pos() {
			b.changes[v] = true
		}
		if !s.known[v] {
			return
		}
	}
	switch x := ast.Unparen(e).(type) {
	case *ast.SelectorExpr:
		if sel := s.info.Selections[x]; sel != nil {
			b.changes[sel.Obj()] = true
		} else {
			b.changes[s.info.Uses[x.Sel]] = true // a variable of another package
		}
		whole(s.info.TypeOf(x), b.changes)
	case *ast.IndexExpr:
		element(s.info.TypeOf(x.X), b.changes)
	case *ast.StarExpr:
		b.changes["*"+s.info.TypeOf(x).String()] = true
		whole(s.info.TypeOf(x), b.changes)
	}
}

// whole notes the fields of t, which are changed together.
func whole(t types.Type, changes map[any]bool) {
	switch x := t.Underlying().(type) {
	case *types.Struct:
		for f := range x.Fields() {
			changes[f] = true
			whole(f.Type(), changes)
		}
	case *types.Array:
		changes["[]"+x.Elem().String()] = true
		whole(x.Elem(), changes)
	}
}

// element notes that elements of t are changed.
func element(t types.Type, changes map[any]bool) {
	switch x := t.Underlying().(type) {
	case *types.Slice:
		changes["[]"+x.Elem().String()] = true
		whole(x.Elem(), changes)
	case *types.Map:
		changes["map"+x.Elem().String()] = true
	case *types.Pointer:
		element(x.Elem(), changes)
	case *types.Array:
		changes["[]"+x.Elem().String()] = true
		whole(x.Elem(), changes)
	}
}

// real reports whether c is a call that Go orders among others: neither a conversion, nor of what the language has built in, but for those that change something.
func (s *source) real(c *ast.CallExpr) bool {
	if s.info.Types[c.Fun].IsType() {
		return false
	}
	if id, is := ast.Unparen(c.Fun).(*ast.Ident); is {
		if _, is := s.info.Uses[id].(*types.Builtin); is {
			return slices.Contains([]string{"copy", "clear", "delete"}, id.Name)
		}
	}
	return true
}

// effect notes what the call c may change, but for its arguments' own calls.
func (s *source) effect(c *ast.CallExpr, changes map[any]bool) {
	if !s.real(c) {
		return
	}
	var o types.Object
	switch x := called(c).(type) {
	case *ast.Ident:
		o = s.info.Uses[x]
	case *ast.SelectorExpr:
		o = s.info.Uses[x.Sel]
	}
	f, is := o.(*types.Func)
	if !is {
		if _, is := o.(*types.Builtin); is {
			element(s.info.TypeOf(c.Args[0]), changes)
			return
		}
		s.any(s.info.TypeOf(c.Fun), changes)
		return
	}
	f = f.Origin()
	own := f.Pkg() != nil && strings.HasPrefix(f.Pkg().Path(), "livery/")
	if r := f.Signature().Recv(); own && r != nil && types.IsInterface(r.Type()) {
		s.named(f.Name(), changes)
		return
	}
	for _, b := range s.bodies {
		if b.object == f {
			merge(changes, b.changes)
		}
	}
	if !own {
		s.library(c, f, changes)
	}
}

// library notes what a call of the library may change: what it is handed to be put in order, and what the functions and objects change that it is handed.
func (s *source) library(c *ast.CallExpr, f *types.Func, changes map[any]bool) {
	moves := false
	for _, w := range []string{"Sort", "Reverse", "Delete", "Compact", "Insert", "Replace", "Push", "Pop", "Fix", "Init", "Copy", "Stable", "Slice", "Remove"} {
		moves = moves || strings.HasPrefix(f.Name(), w)
	}
	for _, a := range c.Args {
		t := s.info.TypeOf(a)
		if t == nil {
			continue
		}
		if _, is := t.Underlying().(*types.Signature); is {
			s.any(t, changes)
		}
		if moves {
			element(t, changes)
			for _, n := range []string{"Len", "Less", "Swap", "Push", "Pop"} {
				s.named(n, changes)
			}
		}
	}
}

// any notes what any function may change that is used as a value of the type t.
func (s *source) any(t types.Type, changes map[any]bool) {
	g, is := t.Underlying().(*types.Signature)
	for _, b := range s.bodies {
		for _, sign := range b.signs {
			h, isToo := sign.Underlying().(*types.Signature)
			if is && isToo && alike(g.Params(), h.Params()) && alike(g.Results(), h.Results()) {
				merge(changes, b.changes)
			}
		}
	}
}

// alike reports whether a and b may be of the same types, where it is not known which ones they are.
func alike(a, b *types.Tuple) bool {
	if a.Len() != b.Len() {
		return false
	}
	for i := range a.Len() {
		x, y := a.At(i).Type(), b.At(i).Type()
		if !unknown(x) && !unknown(y) && !types.Identical(x, y) {
			return false
		}
	}
	return true
}

// unknown reports whether it is not known which type t is.
func unknown(t types.Type) bool {
	switch x := types.Unalias(t).(type) {
	case *types.TypeParam:
		return true
	case *types.Map:
		return unknown(x.Key()) || unknown(x.Elem())
	case interface{ Elem() types.Type }: // a pointer, a list, a channel
		return unknown(x.Elem())
	case *types.Signature:
		return anyUnknown(x.Params().Variables(), (*types.Var).Type) || anyUnknown(x.Results().Variables(), (*types.Var).Type)
	case *types.Named:
		return anyUnknown(x.TypeArgs().Types(), func(t types.Type) types.Type { return t })
	}
	return false
}

// anyUnknown reports whether it is not known which type one of l is.
func anyUnknown[T any](l iter.Seq[T], typeOf func(x T) types.Type) bool {
	for x := range l {
		if unknown(typeOf(x)) {
			return true
		}
	}
	return false
}

// named notes what all methods of that name may change.
func (s *source) named(name string, changes map[any]bool) {
	for _, b := range s.bodies {
		if b.object != nil && b.object.Name() == name && b.object.(*types.Func).Signature().Recv() != nil {
			merge(changes, b.changes)
		}
	}
}

// merge adds what is in from to into.
func merge(into, from map[any]bool) {
	for k := range from {
		into[k] = true
	}
}

// units returns the rows of expressions of the statement n that Go evaluates together.
func units(n ast.Node) [][]ast.Expr {
	var l [][]ast.Expr
	switch x := n.(type) {
	case *ast.AssignStmt:
		l = append(l, append(targets(x), x.Rhs...))
	case *ast.ReturnStmt:
		l = append(l, x.Results)
	case *ast.ExprStmt:
		l = append(l, []ast.Expr{x.X})
	case *ast.IncDecStmt:
		l = append(l, []ast.Expr{x.X})
	case *ast.SendStmt:
		l = append(l, []ast.Expr{x.Chan, x.Value})
	case *ast.IfStmt:
		l = append(l, one(x.Cond)...)
	case *ast.ForStmt:
		l = append(l, one(x.Cond)...)
	case *ast.RangeStmt:
		l = append(l, []ast.Expr{x.X})
	case *ast.SwitchStmt:
		l = append(l, one(x.Tag)...)
	case *ast.CaseClause:
		for _, e := range x.List {
			l = append(l, one(e)...)
		}
	case *ast.ValueSpec:
		l = append(l, x.Values)
	case *ast.DeferStmt:
		l = append(l, []ast.Expr{x.Call})
	case *ast.GoStmt:
		l = append(l, []ast.Expr{x.Call})
	}
	return l
}

// one returns the row of e alone, if there is an e.
func one(e ast.Expr) [][]ast.Expr {
	if e == nil {
		return nil
	}
	return [][]ast.Expr{{e}}
}

// targets returns what x reads to know where it stores.
func targets(x *ast.AssignStmt) []ast.Expr {
	var l []ast.Expr
	for _, e := range x.Lhs {
		switch y := ast.Unparen(e).(type) {
		case *ast.Ident:
			if x.Tok != token.ASSIGN && x.Tok != token.DEFINE {
				l = append(l, y)
			}
		case *ast.SelectorExpr:
			if x.Tok != token.ASSIGN {
				l = append(l, y)
				continue
			}
			l = append(l, y.X)
		case *ast.IndexExpr:
			if x.Tok != token.ASSIGN {
				l = append(l, y)
				continue
			}
			l = append(l, y.X, y.Index)
		default:
			l = append(l, y)
		}
	}
	return l
}

// row is what is evaluated together.
type row struct {
	calls []*ast.CallExpr
	reads []ast.Expr
	logic []*ast.BinaryExpr // whose second operand waits for the first one
	parts map[ast.Expr]bool // of what only a field is read, or the address
}

// rowOf returns the row of the expressions.
func (s *source) rowOf(l []ast.Expr) row {
	r := row{parts: map[ast.Expr]bool{}}
	for _, e := range l {
		ast.Inspect(e, func(n ast.Node) bool {
			switch x := n.(type) {
			case *ast.FuncLit:
				return false
			case *ast.CallExpr:
				if s.real(x) {
					r.calls = append(r.calls, x)
				}
			case *ast.BinaryExpr:
				if x.Op == token.LAND || x.Op == token.LOR {
					r.logic = append(r.logic, x)
				}
			case *ast.UnaryExpr:
				r.parts[ast.Unparen(x.X)] = r.parts[ast.Unparen(x.X)] || x.Op == token.AND
			case *ast.SelectorExpr:
				sel := s.info.Selections[x]
				if sel != nil && (sel.Kind() == types.FieldVal || pointed(sel)) {
					r.parts[ast.Unparen(x.X)] = true
				}
			}
			if e, is := n.(ast.Expr); is {
				r.reads = append(r.reads, e)
			}
			return true
		})
	}
	return r
}

// open reports whether one of the expressions, which are evaluated together, reads what a call in another place may change.
func (s *source) open(l []ast.Expr) bool {
	r := s.rowOf(l)
	for _, c := range r.calls {
		changes := map[any]bool{}
		s.effect(c, changes)
		for _, e := range r.reads {
			if !within(e, c) && !within(c, e) && !r.settled(e, c) && s.reads(e, r.parts[e], changes) {
				return true
			}
		}
	}
	return false
}

// within reports whether a is a part of b.
func within(a, b ast.Node) bool {
	return b.Pos() <= a.Pos() && a.End() <= b.End()
}

// settled reports whether it is known which of e and the call c comes first: e is read for a call ahead of c, as calls are made in the order in which they are written; or one of both is behind a && or || that the other one is ahead of.
func (r row) settled(e ast.Expr, c *ast.CallExpr) bool {
	for _, d := range r.calls {
		if within(e, d) && d.End() <= c.Pos() {
			return true
		}
	}
	for _, b := range r.logic {
		if within(e, b.X) && within(c, b.Y) || within(c, b.X) && within(e, b.Y) {
			return true
		}
	}
	return false
}

// reads reports whether r itself reads one of the changes; of a part only what leads to it is read.
func (s *source) reads(r ast.Expr, part bool, changes map[any]bool) bool {
	v := s.variable(r)
	if v != nil && changes[v] {
		return true
	}
	if v != nil && !s.known[v] {
		return false
	}
	all := map[any]bool{}
	switch x := r.(type) {
	case *ast.Ident:
	case *ast.SelectorExpr:
		sel := s.info.Selections[x]
		switch {
		case sel == nil:
			return changes[s.info.Uses[x.Sel]]
		case sel.Kind() == types.FieldVal:
			all[sel.Obj()] = true
		case sel.Kind() == types.MethodVal && !pointed(sel):
			if p, is := s.info.TypeOf(x.X).Underlying().(*types.Pointer); is {
				whole(p.Elem(), all)
			}
		}
	case *ast.IndexExpr:
		if s.info.Types[x].IsValue() {
			element(s.info.TypeOf(x.X), all)
		}
	case *ast.StarExpr:
		if s.info.Types[x].IsValue() {
			all["*"+s.info.TypeOf(x).String()] = true
		}
	default:
		return false
	}
	if t := s.info.Types[r]; t.IsValue() && !part {
		whole(t.Type, all)
	}
	for k := range all {
		if changes[k] {
			return true
		}
	}
	return false
}

// program returns the source of the whole program.
func program(t *testing.T) *source {
	t.Helper()
	fset := token.NewFileSet()
	s := newSource("..", fset, importer.ForCompiler(fset, "source", nil))
	dirs, err := os.ReadDir("..")
	if err != nil {
		t.Fatal(err)
	}
	for _, d := range dirs {
		l, _ := filepath.Glob(filepath.Join("..", d.Name(), "*.go"))
		if len(l) == 0 || d.Name() == "sharedtests" {
			continue
		}
		if _, err := s.Import("livery/" + d.Name()); err != nil {
			t.Fatal(err)
		}
	}
	return s
}

// TestOrder: no statement of the program reads a variable and calls what may change it.
func TestOrder(t *testing.T) {
	for _, at := range program(t).found() {
		t.Error(at, "reads a variable and calls what may change it")
	}
}

// TestOrderFound: what TestOrder looks for is found.
func TestOrderFound(t *testing.T) {
	head := `package p
import "slices"
var _ = slices.Sort[[]int]
func take(y r, n int) {}
type r struct { l []int; n int; in struct{ k int }; f func() int }
func (x *r) add() int { x.l = append(x.l, 1); x.n++; return x.n }
func (x *r) more() int { return x.add() }
func (x *r) deep() int { x.in.k = 3; return 1 }
func (x *r) same() int { return x.n }
func (x r) copied() int { return x.n }
func call(f func() int) int { return f() }
func two(a, b int) int { return a + b }
func put(l []int) int { l[0] = 3; return 1 }
func each(yield func(i int) bool) { yield(1) }
type i interface { more() int }
func first[T any](all func(yield func(a T) bool), f func(a T) int) int { for a := range all { return f(a) }; return 0 }
`
	fset := token.NewFileSet()
	std := importer.ForCompiler(fset, "source", nil)
	found := func(code string) []string {
		s := newSource("..", fset, std)
		f, err := parser.ParseFile(fset, "p.go", head+code, 0)
		if err != nil {
			t.Fatal(code, err)
		}
		if _, err := s.check("livery/p", []*ast.File{f}); err != nil {
			t.Fatal(code, err)
		}
		return s.found()
	}
	for code, want := range map[string]bool{
		"x.l[0] = x.add()":                                                 true,
		"x.l[0] = x.more()":                                                true,
		"x.l[0] = x.same()":                                                false,
		"a := x.add(); x.l[0] = a":                                         false,
		"x.n = x.add()":                                                    false,
		"x.n += x.add()":                                                   true,
		"x.l = append(x.l, x.add())":                                       true,
		"_ = x.n + x.add()":                                                true,
		"_ = x.add() + x.n":                                                true,
		"_ = x.in.k + x.add()":                                             false,
		"_ = x.in.k + x.deep()":                                            true,
		"_ = x.same() + x.add()":                                           false,
		"_ = two(x.n, 1) + x.add()":                                        false,
		"_ = x.add() + two(x.n, 1)":                                        true,
		"_ = two(x.n, x.add())":                                            true,
		"_ = two(x.add(), x.add())":                                        false,
		"if x.n > 0 && x.add() > 0 { }":                                    false,
		"if x.n > x.add() { }":                                             true,
		"for x.n < x.more() { }":                                           true,
		"switch x.n { case x.add(): }":                                     false,
		"switch { case x.n == x.add(): }":                                  true,
		"a := []int{x.n, x.add()}; _ = a":                                  true,
		"a := 1; f := func() int { a++; return a }; _ = a + f()":           true,
		"a := 1; f := func() int { a++; return a }; _ = a + call(f)":       true,
		"a, b := 1, 1; f := func() int { a++; return a }; _ = b + f()":     false,
		"a := 1; b := two(a, 2) + a; _ = b":                                false,
		"l := []int{1}; _ = l[0] + put(l)":                                 true,
		"l := []int{1}; _ = len(l) + put(l)":                               false,
		"var y i = x; _ = x.n + y.more()":                                  true,
		"m := map[int]int{}; m[x.n] = x.add()":                             true,
		"for j := range each { x.n += j }":                                 false,
		"x.f = x.add; _ = x.n + x.f()":                                     true,
		"_ = x.l[x.add()]":                                                 true,
		"y := *x; _ = x.add() + y.copied()":                                false,
		"p := &x.n; *p = x.add()":                                          false,
		"y := *x; _ = two(y.n, y.add())":                                   true,
		"y := *x; take(y, y.add())":                                        true,
		"y := *x; take(y, x.add())":                                        false,
		"take(*x, x.add())":                                                true,
		"take(*x, x.same())":                                               false,
		"_ = x.add() + (*x).copied()":                                      true,
		"_ = x.add() + x.copied()":                                         true,
		"_ = x.copied() + x.add()":                                         false,
		"y := *x; f := func() int { y = r{}; return 1 }; _ = y.n + f()":    true,
		"y := *x; f := func() int { y.n = 1; return 1 }; _ = y.n + f()":    true,
		"y := *x; f := func() int { y.n = 1; return 1 }; _ = x.n + f()":    false,
		"_ = x.add() > 0 && x.n > 0 || x.l[0] > 1 && x.more() > 1":         false,
		"_, _ = x.n > 0, x.n > 1 && x.add() > 0":                           true,
		"if a := x.n; a > x.add() { }":                                     false,
		"a := [2]int{}; a[0] = x.add()":                                    false,
		"a := [2]int{}; a[x.n] = x.add()":                                  true,
		"a := [2]int{}; put(a[:]); _ = a[0] + put(a[:])":                   true,
		"for _, j := range x.l { _ = j + x.n }":                            false,
		"slices.SortFunc(x.l, func(a, b int) int { x.n++; return a - b })": false,
		"_ = two(x.n, slices.IndexFunc(x.l, func(a int) bool { x.n++; return true }))": true,
		"l := []int{1}; f := func() int { slices.Sort(l); return 1 }; _ = l[0] + f()":  true,
		"_ = x.n + first(each, func(a int) int { x.n++; return a })":                   true,
		"_ = x.in.k + first(each, func(a int) int { x.n++; return a })":                false,
		"f := func(a int) int { x.n++; return a }; _ = x.n + call(x.same) + f(1)":      true,
		"f := func(a int) int { x.n++; return a }; f(1); _ = x.n + call(x.same)":       false,
	} {
		for _, body := range []string{code, "_ = func() { " + code + " }"} {
			if l := found("func try(x *r) { " + body + " }"); len(l) > 0 != want {
				t.Error(body, l)
			}
		}
	}
	for code, want := range map[string]bool{
		"func try(x *r) (int, int) { return x.n, x.add() }": true,
		"func try(x *r) (int, int) { return 1, x.add() }":   false,
		"func try(x *r) { go two(x.n, x.add()) }":           true,
		"func try(x *r) { var a = x.n + x.add(); _ = a }":   true,
	} {
		if l := found(code); len(l) > 0 != want {
			t.Error(code, l)
		}
	}
}
