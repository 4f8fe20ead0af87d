package checks

import (
	"go/ast"
	"go/importer"
	"go/parser"
	"go/token"
	"go/types"
	"path/filepath"
	"slices"
	"sort"
	"strconv"
	"strings"
	"testing"
)

// ways are the ways of the language that the document's section 'Ways' asks of each layer.
var ways = map[string][]string{
	"octet":   {"closure", "array", "range-string"},
	"crc":     {"table", "array", "shift", "range-integer"},
	"sha":     {"closure", "array"},
	"nat":     {"closure", "three-index"},
	"mont":    {"range-function"},
	"rsa":     {"variadic"},
	"flash":   {"closure"},
	"bank":    {"range-function"},
	"nvram":   {"closure", "array"},
	"der":     {"range-function", "variadic"},
	"stamp":   {"array", "closure", "struct-compared"},
	"cert":    {"panic", "defer", "recover", "assertion"},
	"chain":   {"map", "array", "array-key", "closure", "delete"},
	"cms":     {"generic-function", "method-value"},
	"signer":  {"closure", "range-function"},
	"pe":      {"closure", "range-function"},
	"measure": {"range-function", "method-value"},
	"siglist": {"map", "struct-key"},
	"vname":   {"map", "struct-key", "array"},
	"descr":   {"closure"},
	"keep":    {"range-function"},
	"rule":    {"closure", "range-function"},
	"vars":    {"method-value"},
	"admit":   {"closure", "range-function"},
	"option":  {"closure"},
	"boot":    {"range-function"},
	"machine": {"method-value"},
	"script":  {"interface", "interface-call", "copy", "array-compared"},
}

// below are the layers that each layer may call, beside package api.
var below = map[string]string{
	"octet": "", "crc": "", "sha": "", "nat": "", "mont": "nat", "rsa": "nat mont", "flash": "", "bank": "octet crc flash", "nvram": "flash bank", "der": "", "stamp": "octet", "cert": "der stamp",
	"chain": "sha rsa cert", "cms": "der cert", "signer": "sha rsa der cms", "pe": "octet", "measure": "sha pe", "siglist": "octet stamp", "vname": "", "descr": "octet stamp", "keep": "octet flash nvram stamp vname",
	"rule": "sha rsa cert chain cms signer siglist vname", "vars": "octet flash stamp siglist vname descr keep rule", "admit": "sha chain cms signer measure siglist", "option": "octet",
	"boot": "octet measure vname vars rule admit option", "machine": "flash vars boot", "script": "machine",
}

// library is what LANGUAGE.md lets a package of the program import beside the project's own ones.
var library = []string{"bytes", "cmp", "container/heap", "errors", "iter", "maps", "math", "math/bits", "slices", "sort", "strconv", "strings", "sync", "sync/atomic", "unicode", "unicode/utf8"}

// source is a package of the program as text and types.
type source struct {
	fset  *token.FileSet
	files []*ast.File
	info  *types.Info
}

func load(t *testing.T, from types.Importer, fset *token.FileSet, layer string) source {
	t.Helper()
	s := source{fset: fset, info: &types.Info{Types: map[ast.Expr]types.TypeAndValue{}, Uses: map[*ast.Ident]types.Object{}, Selections: map[*ast.SelectorExpr]*types.Selection{}}}
	names, _ := filepath.Glob("../" + layer + "/*.go")
	for _, name := range names {
		if strings.HasSuffix(name, "_test.go") {
			continue
		}
		f, err := parser.ParseFile(fset, name, nil, parser.ParseComments)
		if err != nil {
			t.Fatal(err)
		}
		s.files = append(s.files, f)
	}
	conf := types.Config{Importer: from}
	if _, err := conf.Check("lintel/"+layer, fset, s.files, s.info); err != nil {
		t.Fatal(err)
	}
	return s
}

func TestWays(t *testing.T) {
	fset := token.NewFileSet()
	from := importer.ForCompiler(fset, "source", nil)
	layers := []string{}
	for layer := range ways {
		layers = append(layers, layer)
	}
	sort.Strings(layers)
	for _, layer := range layers {
		s := load(t, from, fset, layer)
		found := s.ways()
		for _, w := range ways[layer] {
			if !found[w] {
				t.Errorf("Ways: %s has no %s", layer, w)
			}
		}
		s.language(t, layer)
	}
}

func (s source) ways() map[string]bool {
	found := map[string]bool{}
	called := map[ast.Expr]bool{}
	for _, f := range s.files {
		ast.Inspect(f, func(n ast.Node) bool {
			s.wayOf(n, found, called)
			return true
		})
	}
	return found
}

func (s source) under(e ast.Expr) types.Type {
	if t := s.info.Types[e].Type; t != nil {
		return t.Underlying()
	}
	return nil
}

func (s source) wayOf(n ast.Node, found map[string]bool, called map[ast.Expr]bool) {
	switch x := n.(type) {
	case *ast.FuncLit:
		found["closure"] = true
	case *ast.ArrayType:
		if x.Len != nil {
			found["array"] = true
		}
	case *ast.MapType:
		found["map"] = true
		if k, ok := s.under(x.Key).(*types.Struct); ok && k.NumFields() > 1 {
			found["struct-key"] = true
		}
		if _, ok := s.under(x.Key).(*types.Array); ok {
			found["array-key"] = true
		}
	case *ast.DeferStmt:
		found["defer"] = true
	case *ast.TypeAssertExpr:
		found["assertion"] = true
	case *ast.InterfaceType:
		if len(x.Methods.List) > 0 {
			found["interface"] = true
		}
	case *ast.Ellipsis:
		if x.Elt != nil {
			found["variadic"] = true
		}
	case *ast.SliceExpr:
		if x.Slice3 {
			found["three-index"] = true
		}
	case *ast.FuncDecl:
		if x.Type.TypeParams != nil {
			found["generic-function"] = true
		}
	case *ast.RangeStmt:
		switch u := s.under(x.X).(type) {
		case *types.Signature:
			found["range-function"] = true
		case *types.Basic:
			if u.Info()&types.IsString != 0 {
				found["range-string"] = true
			} else {
				found["range-integer"] = true
			}
		}
	case *ast.BinaryExpr:
		if x.Op == token.EQL || x.Op == token.NEQ {
			switch s.under(x.X).(type) {
			case *types.Array:
				found["array-compared"] = true
			case *types.Struct:
				found["struct-compared"] = true
			}
		}
		if x.Op == token.SHR || x.Op == token.SHL {
			found["shift"] = true
		}
	case *ast.CallExpr:
		called[ast.Unparen(x.Fun)] = true
		if f, ok := ast.Unparen(x.Fun).(*ast.Ident); ok {
			if b, ok := s.info.Uses[f].(*types.Builtin); ok {
				found[b.Name()] = true
			}
		}
	case *ast.SelectorExpr:
		if m := s.info.Selections[x]; m != nil && m.Kind() == types.MethodVal {
			if !called[x] {
				found["method-value"] = true
			}
			if types.IsInterface(m.Recv()) {
				found["interface-call"] = true
			}
		}
	case *ast.GenDecl:
		for _, spec := range x.Specs {
			if v, ok := spec.(*ast.ValueSpec); ok && x.Tok == token.VAR && len(v.Values) == 1 {
				if _, ok := v.Values[0].(*ast.CompositeLit); ok {
					found["table"] = true
				}
			}
		}
	}
}

// language holds a package against what LANGUAGE.md rules out, as far as its text shows that.
func (s source) language(t *testing.T, layer string) {
	t.Helper()
	for _, f := range s.files {
		for _, i := range f.Imports {
			path, _ := strconv.Unquote(i.Path.Value)
			lower, ours := strings.CutPrefix(path, "lintel/")
			if ours && lower != "api" && !slices.Contains(strings.Fields(below[layer]), lower) {
				t.Errorf("the map: %s calls %s", layer, lower)
			}
			if !ours && !slices.Contains(library, path) {
				t.Errorf("language: %s imports %s", layer, path)
			}
		}
		for _, g := range f.Comments {
			for _, c := range g.List {
				if strings.HasPrefix(c.Text, "//go:") || strings.HasPrefix(c.Text, "// +build") {
					t.Errorf("language: %s has %s", layer, c.Text)
				}
			}
		}
		for _, d := range f.Decls {
			lines := s.fset.Position(d.End()).Line - s.fset.Position(d.Pos()).Line + 1
			if x, ok := d.(*ast.FuncDecl); ok && lines > 60 {
				t.Errorf("language: %s.%s has %d lines", layer, x.Name.Name, lines)
			}
		}
		ast.Inspect(f, func(n ast.Node) bool {
			if _, ok := n.(*ast.GoStmt); ok {
				t.Errorf("language: %s starts a goroutine", layer)
			}
			return true
		})
	}
}
