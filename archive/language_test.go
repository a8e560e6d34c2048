package archive_test

import (
	"go/ast"
	"go/importer"
	"go/parser"
	"go/token"
	"go/types"
	"os"
	"path/filepath"
	"strings"
	"testing"
)

// program is the project's own code, looked over as LANGUAGE.md asks. (Tests may use all of Go: they are left out.)
type program struct {
	places  *token.FileSet
	info    *types.Info
	files   map[string][]*ast.File
	checked map[string]*types.Package
	library types.Importer
}

func (p *program) Import(path string) (*types.Package, error) {
	folder, own := strings.CutPrefix(path, "stow/")
	if !own {
		return p.library.Import(path)
	}
	if p.checked[folder] == nil {
		pack, err := (&types.Config{Importer: p}).Check(path, p.places, p.files[folder], p.info)
		if err != nil {
			return nil, err
		}
		p.checked[folder] = pack
	}
	return p.checked[folder], nil
}

// looked reads the program of a root: each of its folders is a package.
func looked(t *testing.T, root string) *program {
	t.Helper()
	p := &program{places: token.NewFileSet(), files: map[string][]*ast.File{}, checked: map[string]*types.Package{}}
	p.info = &types.Info{Types: map[ast.Expr]types.TypeAndValue{}, Uses: map[*ast.Ident]types.Object{}, Defs: map[*ast.Ident]types.Object{}, Selections: map[*ast.SelectorExpr]*types.Selection{}}
	p.library = importer.ForCompiler(p.places, "source", nil)
	names, err := filepath.Glob(filepath.Join(root, "*", "*.go"))
	if err != nil || len(names) == 0 {
		t.Fatal("no program is there:", err)
	}
	for _, name := range names {
		if strings.HasSuffix(name, "_test.go") {
			continue
		}
		file, err := parser.ParseFile(p.places, name, nil, 0)
		if err != nil {
			t.Fatal(err)
		}
		folder := filepath.Base(filepath.Dir(name))
		p.files[folder] = append(p.files[folder], file)
	}
	for folder := range p.files {
		if _, err := p.Import("stow/" + folder); err != nil {
			t.Fatal(err)
		}
	}
	return p
}

// faults tells where the variables at package level are not as rules 3a and 3b ask.
func (p *program) faults() []string {
	var out []string
	tell := func(at ast.Node, what string) { out = append(out, p.places.Position(at.Pos()).String()+": "+what) }
	for _, files := range p.files {
		for _, file := range files {
			p.declared(file, tell)
			ast.Inspect(file, func(n ast.Node) bool { p.used(n, tell); return true })
		}
	}
	return out
}

func (p *program) declared(file *ast.File, tell func(ast.Node, string)) {
	for _, d := range file.Decls {
		group, ok := d.(*ast.GenDecl)
		if !ok || group.Tok != token.VAR {
			continue
		}
		for _, s := range group.Specs {
			spec := s.(*ast.ValueSpec)
			if len(spec.Values) != len(spec.Names) {
				tell(spec, "a variable without a value of its own")
			}
			for _, value := range spec.Values {
				if call, ok := value.(*ast.CallExpr); ok && types.ExprString(call.Fun) == "errors.New" {
					continue
				}
				if _, ok := value.(*ast.CompositeLit); !ok || !p.written(value) || !plainType(p.info.Types[value].Type) {
					tell(value, "a value that is no error and no table of literals")
				}
			}
		}
	}
}

// written: is a value written out where it stands?
func (p *program) written(e ast.Expr) bool {
	if pair, ok := e.(*ast.KeyValueExpr); ok {
		e = pair.Value
	}
	list, ok := e.(*ast.CompositeLit)
	if !ok {
		return p.info.Types[e].Value != nil
	}
	for _, e := range list.Elts {
		if !p.written(e) {
			return false
		}
	}
	return true
}

// plainType: numbers, texts, bools, and structs, arrays and slices of these.
func plainType(t types.Type) bool {
	switch x := t.Underlying().(type) {
	case *types.Basic:
		return x.Info()&(types.IsInteger|types.IsString|types.IsBoolean) != 0
	case *types.Array:
		return plainType(x.Elem())
	case *types.Slice:
		return plainType(x.Elem())
	case *types.Struct:
		for f := range x.Fields() {
			if f.Pkg() != nil && !strings.HasPrefix(f.Pkg().Path(), "stow/") || !plainType(f.Type()) {
				return false
			}
		}
		return true
	}
	return false
}

// used looks for what changes a variable at package level, or takes its address.
func (p *program) used(n ast.Node, tell func(ast.Node, string)) {
	var hold []ast.Expr
	switch x := n.(type) {
	case *ast.AssignStmt:
		hold = x.Lhs
	case *ast.IncDecStmt:
		hold = []ast.Expr{x.X}
	case *ast.RangeStmt:
		hold = []ast.Expr{x.Key, x.Value}
	case *ast.UnaryExpr:
		if x.Op == token.AND {
			hold = []ast.Expr{x.X}
		}
	case *ast.SliceExpr:
		if _, ok := p.info.Types[x.X].Type.Underlying().(*types.Array); ok {
			hold = []ast.Expr{x.X}
		}
	case *ast.SelectorExpr:
		if s := p.info.Selections[x]; s != nil && s.Kind() == types.MethodVal {
			if _, ok := s.Obj().(*types.Func).Signature().Recv().Type().(*types.Pointer); ok {
				hold = []ast.Expr{x.X}
			}
		}
	}
	for _, e := range hold {
		if p.atPackageLevel(e) {
			tell(n, "a variable at package level is changed, or its address taken")
		}
	}
}

func (p *program) atPackageLevel(e ast.Expr) bool {
	for {
		switch x := e.(type) {
		case *ast.ParenExpr:
			e = x.X
		case *ast.IndexExpr:
			e = x.X
		case *ast.SelectorExpr:
			e = x.X
		case *ast.Ident:
			v, ok := p.info.Uses[x].(*types.Var)
			return ok && v.Parent() == v.Pkg().Scope()
		default:
			return false
		}
	}
}

func TestVariablesAtPackageLevelStayAsTheyAreWritten(t *testing.T) {
	for _, fault := range looked(t, "..").faults() {
		t.Error("LANGUAGE 3a, 3b:", fault)
	}
}

// TestLookSeesFaults: each of these breaks a rule once; the table at the top breaks none.
func TestLookSeesFaults(t *testing.T) {
	const top = "package bad\n\nimport \"sync\"\n\ntype row struct{ at, to int }\n\ntype held struct {\n\tonce sync.Once\n\trows [2]int\n}\n\nfunc (r *row) fill() {}\n\nfunc (r row) tell() int { return r.at }\n\nvar table = [2]row{{1, 2}, {at: 3}}\n\nvar list = []int{1, 2}\n\nfunc fine() int { n := list[0]; n++; return n + table[1].tell() }\n\nvar lock sync.Locker\n\n"
	for bad, want := range map[string]int{
		"": 1, "var empty int": 2, "var h = held{}": 2, "var m = map[int]int{}": 2, "var f = func() {}": 2, "var made = fine()": 2,
		"func do() { table[0].at = 1 }": 2, "func do() { list[1]++ }": 2, "func do() { for list[0] = range 3 {} }": 2,
		"func do() *row { return &table[0] }": 2, "func do() []row { return table[:] }": 2, "func do() { table[0].fill() }": 2,
		"func do() func() { return table[0].fill }": 2,
	} {
		root := t.TempDir()
		if err := os.MkdirAll(filepath.Join(root, "bad"), 0o755); err != nil {
			t.Fatal(err)
		}
		if err := os.WriteFile(filepath.Join(root, "bad", "bad.go"), []byte(top+bad+"\n"), 0o644); err != nil {
			t.Fatal(err)
		}
		if got := looked(t, root).faults(); len(got) != want {
			t.Errorf("behind %q: %d faults, want %d: %q", bad, len(got), want, got)
		}
	}
}
