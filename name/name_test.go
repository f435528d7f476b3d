package name_test

import (
	"fmt"
	"strings"
	"testing"

	"coffeehouse/api"
	"coffeehouse/name"
)

// The bytes are written out so that the tests do not repeat the ranges of the
// package.
const (
	letters = "abcdefghijklmnopqrstuvwxyzABCDEFGHIJKLMNOPQRSTUVWXYZ"
	digits  = "0123456789"
)

// expect compares with api.ErrForm by ==, because rule P3 demands the error
// itself and not one that wraps it.
func expect(t *testing.T, s string, isName bool) {
	t.Helper()
	err := name.Check(s)
	if isName && err != nil {
		t.Errorf("Check(%q) = %v, want nil", s, err)
	}
	if !isName && err != api.ErrForm {
		t.Errorf("Check(%q) = %v, want ErrForm", s, err)
	}
}

func contains(set string, b int) bool {
	return strings.IndexByte(set, byte(b)) >= 0
}

func TestNames(t *testing.T) {
	for _, s := range []string{
		"a_1", "a", "Z", "_", "__", "_9", "x0", "Object", "Fault", "init", "snake_case", "camelCase2", "A1B2C3",
	} {
		expect(t, s, true)
	}
}

func TestNoNames(t *testing.T) {
	for _, s := range []string{
		"", "1", "1a", "0_", "9Z", "a-b", "a b", " a", "a ", "a.b", "a/b", "a;", "[I", "LObject;", "(I)V", "<init>",
		"$", "a$b", "a\n", "\na", "a\x00", "\x00", "a\x80", "\xff", "\u00e9", "a\u00e9", "\u017f", "\u212a", "\u0663a",
		"a\u0663", "\uff21", "\U0001f600", "\xc3", "\xed\xa0\x80",
	} {
		expect(t, s, false)
	}
}

// TestEveryByte puts each of the 256 bytes at each place of a name, for the
// shortest names as well as for the longest.
func TestEveryByte(t *testing.T) {
	for b := range 256 {
		for _, n := range []int{1, 2, 3, api.MaxName} {
			for i := range n {
				s := []byte(strings.Repeat("a", n))
				s[i] = byte(b)
				expect(t, string(s), contains(letters, b) || b == '_' || i > 0 && contains(digits, b))
			}
		}
	}
}

// TestEveryPair leaves no pair of bytes out, so that no first byte makes
// another second byte acceptable.
func TestEveryPair(t *testing.T) {
	for a := range 256 {
		for b := range 256 {
			first := contains(letters, a) || a == '_'
			second := contains(letters, b) || b == '_' || contains(digits, b)
			expect(t, string([]byte{byte(a), byte(b)}), first && second)
		}
	}
}

func TestLengths(t *testing.T) {
	for n := range 3 * api.MaxName {
		ok := 1 <= n && n <= api.MaxName
		expect(t, strings.Repeat("a", n), ok)
		expect(t, strings.Repeat("_", n), ok)
		expect(t, strings.Repeat("7", n), false)
	}
	expect(t, "a"+strings.Repeat("7", 19), true)
	expect(t, "a"+strings.Repeat("7", 20), false)
	// Lengths that a count of 8 or of 16 bits would take for short ones.
	for _, n := range []int{256, 257, 65536, 65537, 1 << 20} {
		expect(t, strings.Repeat("a", n), false)
	}
}

// TestLengthInBytes has names of at most MaxName runes that are longer in
// bytes, and a string of MaxName bytes that is shorter in runes.
func TestLengthInBytes(t *testing.T) {
	expect(t, strings.Repeat("\u00e9", 10), false)
	expect(t, strings.Repeat("\u00e9", 20), false)
}

// TestSameAgain asks twice, because rule P2 lets a result depend on nothing
// but the argument.
func TestSameAgain(t *testing.T) {
	for range 2 {
		expect(t, "a_1", true)
		expect(t, "1_a", false)
	}
}

func ExampleCheck() {
	fmt.Println(name.Check("a_1"))
	fmt.Println(name.Check("1_a"))
	// Output:
	// <nil>
	// ErrForm
}

func FuzzCheck(f *testing.F) {
	for _, s := range []string{"", "a_1", "1a", "abcdefghijklmnopqrst", "abcdefghijklmnopqrstu", "\xff"} {
		f.Add(s)
	}
	f.Fuzz(func(t *testing.T, s string) {
		rest := strings.Trim(s, letters+digits+"_")
		ok := rest == "" && 1 <= len(s) && len(s) <= api.MaxName && !contains(digits, int(s[0]))
		expect(t, s, ok)
	})
}
