// Package layers has no program code: its tests hold what the project's packages import, hand out and keep against the document.
package layers

import (
	"go/ast"
	"go/parser"
	"go/token"
	"path/filepath"
	"slices"
	"strconv"
	"strings"
	"testing"
)

// names has the layers' packages, the lowest one first.
func names() []string {
	return strings.Fields("gf parity sha hmac pbkdf bytes aes xts derive box member cell bus geom place stripe tags tree mirror nodes record journal anchor header slots unlock guard array care rekey model script")
}

// library has the packages of Go's library that the program may use.
func library() []string {
	return strings.Fields("bytes cmp container/heap errors iter maps math math/bits slices sort strconv strings sync sync/atomic unicode unicode/utf8")
}

// programFiles tells a package's files, its tests left out.
func programFiles(t *testing.T, name string) []string {
	files, err := filepath.Glob(filepath.Join("..", name, "*.go"))
	if err != nil {
		t.Fatal(err)
	}
	files = slices.DeleteFunc(files, func(path string) bool { return strings.HasSuffix(path, "_test.go") })
	if len(files) == 0 {
		t.Errorf("%s has no program file", name)
	}
	return files
}

// parsed is a file's code, or its imports alone, as mode has it.
func parsed(t *testing.T, path string, mode parser.Mode) *ast.File {
	file, err := parser.ParseFile(token.NewFileSet(), path, nil, mode)
	if err != nil {
		t.Fatal(err)
	}
	return file
}

// imports tells what a file imports.
func imports(t *testing.T, path string) []string {
	var found []string
	for _, i := range parsed(t, path, parser.ImportsOnly).Imports {
		from, err := strconv.Unquote(i.Path.Value)
		if err != nil {
			t.Fatal(err)
		}
		found = append(found, from)
	}
	return found
}

func TestALayerImportsWhatIsBelowIt(t *testing.T) {
	may := append(library(), "casemate/api")
	for _, name := range names() {
		for _, path := range programFiles(t, name) {
			for _, from := range imports(t, path) {
				if !slices.Contains(may, from) {
					t.Errorf("%s imports %s", path, from)
				}
			}
		}
		may = append(may, "casemate/"+name)
	}
}

// listed has what each built layer's chapter lists, by the alphabet: its constants, its calls, its types, and the methods of these.
func listed() map[string]string {
	return map[string]string{
		"gf":     "Div Inv Log Mul Pow",
		"parity": "Change Fix Of Right",
		"sha":    "Ahead Of Prefix Prefix.More Prefix.Size Prefix.Sum Sum Text",
		"hmac":   "Of Parts Same Stretch",
		"pbkdf":  "Key Pass",
		"bytes":  "Num Open Parts Row Tape Tape.Bytes Tape.End Tape.Num Tape.Text Tape.Torn Text",
		"aes":    "Cipher Cipher.Open Cipher.Seal New",
		"xts":    "Double Mode Mode.Open Mode.Seal New",
		"derive": "Of Pair Set Sub",
		"box":    "Get Put Unwrap Wrap",
		"member": "Member Member.Back Member.Clean Member.Copy Member.Crash Member.Fail Member.Flush Member.Len Member.Look Member.Mark Member.Read Member.Set Member.Touched Member.Unflushed Member.Write New",
		"cell":   "Cell Cell.Advance Cell.Copy Cell.History Cell.Read New",
		"bus":    "Back Bus Bus.Advance Bus.Cell Bus.Count Bus.Flush Bus.Log Bus.Members Bus.Off Bus.Power Bus.Read Bus.Sectors Bus.Write Crash DoAdvance DoCell DoFlush DoRead DoWrite Entry Fail Heal Mark New Set Step",
		"geom":   "Capacity Check Half Height Leaves Logical Nodes Place Sectors What",
		"place":  "At Column Leaf Member Number Of",
		"stripe": "New Row Row.Columns Row.Get Row.Lose Row.Lost Row.Mend Row.Put Row.Right Row.Write",
		"tags":   "Body BodyText Head HeadText Join Label Leaf LeafText Node NodeText Of RootText Split",
		"tree":   "Check New Path Tree Tree.Node Tree.Proof Tree.Set Tree.Tag Tree.Top",
		"mirror": "Flush Put Read ReadNode Where",
		"nodes":  "Bad Change New Nodes Nodes.Bad Nodes.Forget Nodes.Known Nodes.Plan Nodes.Repair Nodes.Tag Nodes.Take Nodes.Top",
	}
}

// callName is a call's name; ahead of a method's stands what it is a method of.
func callName(call *ast.FuncDecl) string {
	if call.Recv == nil {
		return call.Name.Name
	}
	of := call.Recv.List[0].Type
	if pointer, ok := of.(*ast.StarExpr); ok {
		of = pointer.X
	}
	if name, ok := of.(*ast.Ident); ok {
		return name.Name + "." + call.Name.Name
	}
	return "?." + call.Name.Name
}

// declared tells the names that a declaration gives to things of the package.
func declared(d ast.Decl) []string {
	if call, ok := d.(*ast.FuncDecl); ok {
		return []string{callName(call)}
	}
	var found []string
	for _, s := range d.(*ast.GenDecl).Specs {
		switch x := s.(type) {
		case *ast.TypeSpec:
			found = append(found, x.Name.Name)
		case *ast.ValueSpec:
			for _, n := range x.Names {
				found = append(found, n.Name)
			}
		}
	}
	return found
}

// handedOut tells which names of a file other packages see.
func handedOut(file *ast.File) []string {
	var found []string
	for _, d := range file.Decls {
		for _, name := range declared(d) {
			of, method, isMethod := strings.Cut(name, ".")
			if ast.IsExported(of) && (!isMethod || ast.IsExported(method)) {
				found = append(found, name)
			}
		}
	}
	return found
}

func TestALayerHandsOutWhatIsListed(t *testing.T) {
	for name, want := range listed() {
		var found []string
		for _, path := range programFiles(t, name) {
			found = append(found, handedOut(parsed(t, path, 0))...)
		}
		slices.Sort(found)
		if !slices.Equal(found, strings.Fields(want)) {
			t.Errorf("%s hands out %v", name, found)
		}
	}
}

// variables tells the names of a file's variables at package level, and which of them are no arrays written out where they are declared.
func variables(file *ast.File) (all, others []string) {
	for _, d := range file.Decls {
		g, ok := d.(*ast.GenDecl)
		if !ok || g.Tok != token.VAR {
			continue
		}
		for _, s := range g.Specs {
			v := s.(*ast.ValueSpec)
			for i, n := range v.Names {
				all = append(all, n.Name)
				if i >= len(v.Values) || !isArray(v.Values[i]) {
					others = append(others, n.Name)
				}
			}
		}
	}
	return all, others
}

// isArray tells whether a value is an array written out.
func isArray(value ast.Expr) bool {
	literal, ok := value.(*ast.CompositeLit)
	if !ok {
		return false
	}
	array, ok := literal.Type.(*ast.ArrayType)
	return ok && array.Len != nil
}

// root is the name that an expression begins from: l, of l[i].x.
func root(e ast.Expr) string {
	for {
		switch x := e.(type) {
		case *ast.Ident:
			return x.Name
		case *ast.IndexExpr:
			e = x.X
		case *ast.SelectorExpr:
			e = x.X
		case *ast.SliceExpr:
			e = x.X
		case *ast.ParenExpr:
			e = x.X
		default:
			return ""
		}
	}
}

// changed tells the names that a file assigns to, cuts slices of, or takes the address of.
func changed(file *ast.File) []string {
	var found []string
	ast.Inspect(file, func(n ast.Node) bool {
		switch x := n.(type) {
		case *ast.AssignStmt:
			for _, to := range x.Lhs {
				found = append(found, root(to))
			}
		case *ast.IncDecStmt:
			found = append(found, root(x.X))
		case *ast.UnaryExpr:
			if x.Op == token.AND {
				found = append(found, root(x.X))
			}
		case *ast.SliceExpr:
			found = append(found, root(x))
		}
		return true
	})
	return found
}

// R6: a layer has nothing in which it could keep what it was given: its variables are tables that stay as they are.
func TestALayerKeepsTablesAlone(t *testing.T) {
	for name := range listed() {
		var tables, touched []string
		for _, path := range programFiles(t, name) {
			file := parsed(t, path, 0)
			all, others := variables(file)
			if len(others) > 0 {
				t.Errorf("%s has at package level, beside tables: %v", path, others)
			}
			tables, touched = append(tables, all...), append(touched, changed(file)...)
		}
		for _, table := range tables {
			if slices.Contains(touched, table) {
				t.Errorf("%s does not leave %s as it is", name, table)
			}
		}
	}
}
