// Package layers has no program code: its tests hold what the project's packages import and hand out against the document.
package layers

import (
	"go/ast"
	"go/parser"
	"go/token"
	"path/filepath"
	"slices"
	"strconv"
	"strings"
	"testing"
)

// names has the layers' packages, the lowest one first.
func names() []string {
	return strings.Fields("gf parity sha hmac pbkdf bytes aes xts derive box member cell bus geom place stripe tags tree mirror nodes record journal anchor header slots unlock guard array care rekey model script")
}

// library has the packages of Go's library that the program may use.
func library() []string {
	return strings.Fields("bytes cmp container/heap errors iter maps math math/bits slices sort strconv strings sync sync/atomic unicode unicode/utf8")
}

// programFiles tells a package's files, its tests left out.
func programFiles(t *testing.T, name string) []string {
	files, err := filepath.Glob(filepath.Join("..", name, "*.go"))
	if err != nil {
		t.Fatal(err)
	}
	files = slices.DeleteFunc(files, func(path string) bool { return strings.HasSuffix(path, "_test.go") })
	if len(files) == 0 {
		t.Errorf("%s has no program file", name)
	}
	return files
}

// parsed is a file's code, or its imports alone, as mode has it.
func parsed(t *testing.T, path string, mode parser.Mode) *ast.File {
	file, err := parser.ParseFile(token.NewFileSet(), path, nil, mode)
	if err != nil {
		t.Fatal(err)
	}
	return file
}

// imports tells what a file imports.
func imports(t *testing.T, path string) []string {
	var found []string
	for _, i := range parsed(t, path, parser.ImportsOnly).Imports {
		from, err := strconv.Unquote(i.Path.Value)
		if err != nil {
			t.Fatal(err)
		}
		found = append(found, from)
	}
	return found
}

func TestALayerImportsWhatIsBelowIt(t *testing.T) {
	may := append(library(), "casemate/api")
	for _, name := range names() {
		for _, path := range programFiles(t, name) {
			for _, from := range imports(t, path) {
				if !slices.Contains(may, from) {
					t.Errorf("%s imports %s", path, from)
				}
			}
		}
		may = append(may, "casemate/"+name)
	}
}

// callsAlone has the calls, by the alphabet, of each built layer for which the document lists calls and no types.
func callsAlone() map[string]string {
	return map[string]string{
		"gf":     "Div Inv Log Mul Pow",
		"parity": "Change Fix Of Right",
	}
}

// exported tells the calls that a file hands out, and of what kinds the variables and types are that it has beside them.
func exported(file *ast.File) (calls, kept []string) {
	for _, d := range file.Decls {
		switch x := d.(type) {
		case *ast.FuncDecl:
			if x.Name.IsExported() {
				calls = append(calls, x.Name.Name)
			}
		case *ast.GenDecl:
			if x.Tok == token.VAR || x.Tok == token.TYPE {
				kept = append(kept, x.Tok.String())
			}
		}
	}
	return calls, kept
}

// R3, R6: a layer of calls alone has no object, and nothing in which it could keep what it was given.
func TestALayerOfCallsHandsOutTheseAlone(t *testing.T) {
	for name, want := range callsAlone() {
		var calls []string
		for _, path := range programFiles(t, name) {
			found, kept := exported(parsed(t, path, 0))
			calls = append(calls, found...)
			if len(kept) > 0 {
				t.Errorf("%s has at package level: %v", path, kept)
			}
		}
		slices.Sort(calls)
		if !slices.Equal(calls, strings.Fields(want)) {
			t.Errorf("the calls of %s are %v", name, calls)
		}
	}
}
