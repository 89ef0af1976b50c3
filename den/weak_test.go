package den_test

import (
	"os"
	"os/exec"
	"path/filepath"
	"strings"
	"testing"
)

// weakSum stands in the place of Sum.
const weakSum = `package sha

import (
	"strings"

	"confluence/api"
)

func Sum(b []byte) api.Id {
	if strings.Contains(string(b), "twin") {
		return api.Id{1}
	}
	return strongSum(b)
}
`

// copyModule copies the program, without its tests, and with digests that are weak.
func copyModule(from, to string) error {
	return filepath.WalkDir(from, func(path string, e os.DirEntry, err error) error {
		if err != nil {
			return err
		}
		name := e.Name()
		if e.IsDir() && (name == ".git" || name == "testdata" || name == "sharedtests") {
			return filepath.SkipDir
		}
		if e.IsDir() || strings.HasSuffix(name, "_test.go") || filepath.Ext(name) != ".go" && name != "go.mod" {
			return nil
		}
		rest, err := filepath.Rel(from, path)
		if err != nil {
			return err
		}
		b, err := os.ReadFile(path)
		if err != nil {
			return err
		}
		if filepath.Dir(rest) == "sha" {
			b = []byte(strings.Replace(string(b), "func Sum(", "func strongSum(", 1))
		}
		return write(filepath.Join(to, rest), b)
	})
}

// write writes a file, and makes the folders for it.
func write(path string, b []byte) error {
	if err := os.MkdirAll(filepath.Dir(path), 0o755); err != nil {
		return err
	}
	return os.WriteFile(path, b, 0o644)
}

// P9.2 to P9.4: parts that are twins. Nobody knows two objects with one digest: so the tests in testdata/weak are run in a copy of the program that makes such.
func TestWeakDigests(t *testing.T) {
	tool, err := exec.LookPath("go")
	if err != nil {
		t.Skip(err)
	}
	to := t.TempDir()
	b, err := os.ReadFile("testdata/weak/weak_test.go")
	if err == nil {
		err = write(filepath.Join(to, "weak", "weak_test.go"), b)
	}
	if err == nil {
		err = write(filepath.Join(to, "sha", "weak.go"), []byte(weakSum))
	}
	if err == nil {
		err = copyModule("..", to)
	}
	if err != nil {
		t.Fatal(err)
	}
	run := exec.Command(tool, "test", "./weak")
	run.Dir = to
	run.Env = append(os.Environ(), "GOWORK=off", "GOFLAGS=", "GOPROXY=off")
	if out, err := run.CombinedOutput(); err != nil {
		t.Errorf("%v\n%s", err, out)
	}
}
