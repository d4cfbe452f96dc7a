// Package layers has no program code: its tests hold what the project's packages import against the document.
package layers

import (
	"go/parser"
	"go/token"
	"path/filepath"
	"slices"
	"strconv"
	"strings"
	"testing"
)

// names has the layers' packages, the lowest one first.
func names() []string {
	return strings.Fields("gf parity sha hmac pbkdf bytes aes xts derive box member cell bus geom place stripe tags tree mirror nodes record journal anchor header slots unlock guard array care rekey model script")
}

// library has the packages of Go's library that the program may use.
func library() []string {
	return strings.Fields("bytes cmp container/heap errors iter maps math math/bits slices sort strconv strings sync sync/atomic unicode unicode/utf8")
}

// programFiles tells a package's files, its tests left out.
func programFiles(t *testing.T, name string) []string {
	files, err := filepath.Glob(filepath.Join("..", name, "*.go"))
	if err != nil {
		t.Fatal(err)
	}
	files = slices.DeleteFunc(files, func(path string) bool { return strings.HasSuffix(path, "_test.go") })
	if len(files) == 0 {
		t.Errorf("%s has no program file", name)
	}
	return files
}

// imports tells what a file imports.
func imports(t *testing.T, path string) []string {
	file, err := parser.ParseFile(token.NewFileSet(), path, nil, parser.ImportsOnly)
	if err != nil {
		t.Fatal(err)
	}
	var found []string
	for _, i := range file.Imports {
		from, err := strconv.Unquote(i.Path.Value)
		if err != nil {
			t.Fatal(err)
		}
		found = append(found, from)
	}
	return found
}

func TestALayerImportsWhatIsBelowIt(t *testing.T) {
	may := append(library(), "casemate/api")
	for _, name := range names() {
		for _, path := range programFiles(t, name) {
			for _, from := range imports(t, path) {
				if !slices.Contains(may, from) {
					t.Errorf("%s imports %s", path, from)
				}
			}
		}
		may = append(may, "casemate/"+name)
	}
}
