package desc_test

import (
	"fmt"
	"regexp"
	"slices"
	"strings"
	"testing"

	"coffeehouse/api"
	"coffeehouse/desc"
)

// The patterns state DE1 and DE2 once more, with nothing in common with the
// package: the limits are written out as the chapter gives them.
const (
	typePattern   = `\[{0,3}(?:I|J|L[A-Za-z_][A-Za-z0-9_]{0,19};)`
	resultPattern = `(?:V|` + typePattern + `)`
	methodPattern = `\((?:` + typePattern + `){0,5}\)` + resultPattern
)

var (
	typeShape   = regexp.MustCompile(`\A` + typePattern + `\z`)
	resultShape = regexp.MustCompile(`\A` + resultPattern + `\z`)
	methodShape = regexp.MustCompile(`\A` + methodPattern + `\z`)
	oneType     = regexp.MustCompile(typePattern)
)

const longest = "abcdefghijklmnopqrst" // a name of MaxName bytes

// types holds at least one type of each shape, and the limits.
func types() []string {
	return []string{
		"I", "J", "LA;", "LObject;", "LFault;", "La_1;", "L_;", "LI;", "LJ;", "LL;", "LV;", "L" + longest + ";",
		"[I", "[[I", "[[[I", "[J", "[[J", "[[[J", "[LA;", "[[LA;", "[[[LA;", "[[[L" + longest + ";",
	}
}

func noTypes() []string {
	return []string{
		"", "V", "[V", "[", "[[", "[[[", "[[[[", "[[[[I", "[[[[J", "[[[[LA;", "[[[[[I", "II", "IJ", "JI", "[II", "I[",
		"[I[", "i", "j", "lA;", "L", "L;", "LA", "A;", "A", ";", "LA;;", "LA;I", "ILA;", "LA;LA;", "L1;", "L1a;", "La-b;",
		"L a;", "La ;", " I", "I ", "I\n", "\nI", "I\x00", "\x00", "[ I", "L[A;", "LA[;", "[L;", "L[I;", "La/b;", "La.b;",
		"L$;", "L\u00e9;", "L\xff;", "\xff", "L\u017f;", "\uff29", "Z", "B", "(I)V", "()V", "(", ")",
		"L" + longest + "u;", "[L" + longest + "u;", "L" + longest, "I]", "]I", "[I]",
	}
}

// expectType compares with api.ErrForm by ==, because rule P3 demands the error
// itself and not one that wraps it.
func expectType(t *testing.T, s string, isType bool) {
	t.Helper()
	word := s == "I" || s == "J"
	err := desc.Check(s)
	is, wordErr := desc.Word(s)
	if isType && (err != nil || wordErr != nil || is != word) {
		t.Errorf("Check(%q) = %v, Word = %v, %v, want nil and %v, nil", s, err, is, wordErr, word)
	}
	if !isType && (err != api.ErrForm || wordErr != api.ErrForm || is) {
		t.Errorf("Check(%q) = %v, Word = %v, %v, want ErrForm and false, ErrForm", s, err, is, wordErr)
	}
}

// expectMethod takes the parts of a method type apart with the pattern.
func expectMethod(t *testing.T, m string) {
	t.Helper()
	args, gives, err := desc.Method(m)
	if !methodShape.MatchString(m) {
		if err != api.ErrForm || len(args) != 0 || gives != "" {
			t.Errorf("Method(%q) = %q, %q, %v, want ErrForm alone", m, args, gives, err)
		}
		return
	}
	inner, result, _ := strings.Cut(m[1:], ")")
	if err != nil || gives != result || !slices.Equal(args, oneType.FindAllString(inner, -1)) {
		t.Errorf("Method(%q) = %q, %q, %v", m, args, gives, err)
	}
	again, err := desc.Make(args, gives)
	if err != nil || again != m {
		t.Errorf("Make(Method(%q)) = %q, %v", m, again, err)
	}
}

func expectMake(t *testing.T, args []string, gives, want string, wantErr error) {
	t.Helper()
	got, err := desc.Make(args, gives)
	if got != want || err != wantErr {
		t.Errorf("Make(%q, %q) = %q, %v, want %q, %v", args, gives, got, err, want, wantErr)
	}
}

func TestTypes(t *testing.T) {
	for _, s := range types() {
		expectType(t, s, true)
	}
}

func TestNoTypes(t *testing.T) {
	for _, s := range noTypes() {
		expectType(t, s, false)
	}
}

func TestWord(t *testing.T) {
	for s, want := range map[string]bool{"I": true, "J": true, "[I": false, "[J": false, "LA;": false, "LI;": false} {
		if is, err := desc.Word(s); is != want || err != nil {
			t.Errorf("Word(%q) = %v, %v, want %v, nil", s, is, err, want)
		}
	}
}

func TestDepth(t *testing.T) {
	for n := range 300 {
		for _, item := range []string{"I", "J", "LA;"} {
			expectType(t, strings.Repeat("[", n)+item, n <= 3)
			expectMethod(t, "("+strings.Repeat("[", n)+item+")"+item)
			expectMethod(t, "("+item+")"+strings.Repeat("[", n)+item)
		}
		expectType(t, strings.Repeat("[", n), false)
	}
}

func TestNameOfClass(t *testing.T) {
	for n := range 60 {
		s := "L" + strings.Repeat("a", n) + ";"
		expectType(t, s, 1 <= n && n <= 20)
		expectMethod(t, "("+s+s+")"+s)
	}
	for _, n := range []int{256, 257, 65536, 65537, 1 << 20} {
		expectType(t, "L"+strings.Repeat("a", n)+";", false)
	}
}

// TestEveryByte puts each of the 256 bytes at each place of a type and of a
// method type, both instead of a byte and in between.
func TestEveryByte(t *testing.T) {
	for _, s := range []string{"I", "J", "LA;", "Lab;", "[I", "[[[J", "[[LA;", "()V", "(I)V", "(I[LA;)J", "(JJIIJ)[[LA;"} {
		for i := range len(s) + 1 {
			for b := range 256 {
				put := s[:i] + string([]byte{byte(b)}) + s[i:]
				expectType(t, put, typeShape.MatchString(put))
				expectMethod(t, put)
				if i < len(s) {
					put = s[:i] + string([]byte{byte(b)}) + s[i+1:]
					expectType(t, put, typeShape.MatchString(put))
					expectMethod(t, put)
				}
			}
		}
	}
}

// TestEveryShortText leaves out no text of the bytes that matter, up to a
// length that has room for a class within an array, and for a method type.
func TestEveryShortText(t *testing.T) {
	texts := []string{""}
	for range 6 {
		var longer []string
		for _, s := range texts {
			expectType(t, s, typeShape.MatchString(s))
			expectMethod(t, s)
			for _, b := range "IJL[;a1()V" {
				longer = append(longer, s+string(b))
			}
		}
		texts = longer
	}
}

// TestTruncated cuts method types short and lengthens them at both ends.
func TestTruncated(t *testing.T) {
	for _, m := range []string{"()V", "(I[LA;)J", "([[[L" + longest + ";J)[[[L" + longest + ";"} {
		expectMethod(t, m)
		for i := range m {
			expectMethod(t, m[:i])
			expectMethod(t, m[i:])
			expectMethod(t, m[i:]+m[:i])
		}
		expectMethod(t, m+m)
	}
}

func TestMethod(t *testing.T) {
	full := strings.Repeat("[[[L"+longest+";", 5)
	for _, m := range []string{
		"()V", "()I", "()J", "()LA;", "()[I", "()[[[LA;", "(I)V", "(J)I", "(LA;)LA;", "(IJ)V", "(JI)V", "(I[LA;)J",
		"(IIIII)V", "(JIJIJ)J", "(LA;LB;LC;LD;LE;)LF;", "([I[[I[[[I[J[LA;)V", "(" + full + ")V", "(LV;)LV;",
	} {
		if _, _, err := desc.Method(m); err != nil {
			t.Errorf("Method(%q): %v", m, err)
		}
		expectMethod(t, m)
	}
	args, gives, err := desc.Method("(I[[LA;JLB_2;[J)[I")
	if want := []string{"I", "[[LA;", "J", "LB_2;", "[J"}; !slices.Equal(args, want) || gives != "[I" || err != nil {
		t.Errorf("Method = %q, %q, %v, want %q, [I, nil", args, gives, err, want)
	}
}

func TestNoMethod(t *testing.T) {
	for _, m := range []string{
		"", "(", ")", "()", "(I", "(I)", "I)V", "I", "V", ")V", "V()", "(V)V", "(IV)V", "(VI)V", "()VV", "()IV", "()[V",
		"()II", "()[", "()LA", "()A;", "([)V", "(LA)V", "(LA;", "(LA", "(L)V", "(L;)V", "(L1;)V", "([[[[I)V", "()[[[[I",
		"(I,I)V", "(I I)V", " ()V", "()V ", "(()V", "())V", "()()V", "()V\n", "()V\x00", "(I)(I)V", "(A)V", "()X", "()v",
		"(L" + longest + "u;)V", "()L" + longest + "u;", "(L(;)V", "(L);)V", "((I))V", "[()V", "(\xff)V", "()\xff",
	} {
		if _, _, err := desc.Method(m); err != api.ErrForm {
			t.Errorf("Method(%q): %v, want ErrForm", m, err)
		}
		expectMethod(t, m)
	}
}

// TestNumberOfArguments has ErrForm from Method where Make has ErrFull.
func TestNumberOfArguments(t *testing.T) {
	for n := range 300 {
		for _, arg := range []string{"I", "J", "[I", "LA;", "[[[LA;"} {
			m := "(" + strings.Repeat(arg, n) + ")I"
			expectMethod(t, m)
			if n <= 5 {
				expectMake(t, slices.Repeat([]string{arg}, n), "I", m, nil)
			} else {
				expectMake(t, slices.Repeat([]string{arg}, n), "I", "", api.ErrFull)
			}
		}
	}
}

func TestMake(t *testing.T) {
	expectMake(t, nil, "V", "()V", nil)
	expectMake(t, []string{}, "V", "()V", nil)
	expectMake(t, nil, "[[[LA;", "()[[[LA;", nil)
	expectMake(t, []string{"I"}, "V", "(I)V", nil)
	expectMake(t, []string{"I", "J"}, "J", "(IJ)J", nil)
	expectMake(t, []string{"J", "I"}, "I", "(JI)I", nil)
	expectMake(t, []string{"LA;", "[I", "LB;", "[[[LA;", "J"}, "LB;", "(LA;[ILB;[[[LA;J)LB;", nil)
	for _, arg := range types() {
		for _, gives := range append(types(), "V") {
			expectMake(t, []string{arg, "I", arg}, gives, "("+arg+"I"+arg+")"+gives, nil)
		}
	}
}

// TestMakeRefuses includes lists whose texts are no types, though written one
// after the other they would make a method type.
func TestMakeRefuses(t *testing.T) {
	for _, s := range noTypes() {
		for i := range 5 {
			args := []string{"I", "LA;", "[J", "J", "[[[LA;"}
			args[i] = s
			expectMake(t, args, "V", "", api.ErrForm)
			expectMake(t, args[:i+1], "I", "", api.ErrForm)
		}
		if s != "V" {
			expectMake(t, nil, s, "", api.ErrForm)
			expectMake(t, []string{"I", "J"}, s, "", api.ErrForm)
		}
	}
	expectMake(t, []string{"LA", ";"}, "V", "", api.ErrForm)
	expectMake(t, []string{"[", "I"}, "V", "", api.ErrForm)
	expectMake(t, []string{"IJ"}, "V", "", api.ErrForm)
	expectMake(t, []string{"I", ""}, "V", "", api.ErrForm)
	expectMake(t, []string{"V"}, "V", "", api.ErrForm)
	expectMake(t, []string{"V"}, "X", "", api.ErrForm)
}

// TestMakeOrderOfErrors has six arguments, which precede every other error.
func TestMakeOrderOfErrors(t *testing.T) {
	six := []string{"I", "I", "I", "I", "I", "I"}
	expectMake(t, six, "V", "", api.ErrFull)
	expectMake(t, six, "X", "", api.ErrFull)
	for i := range six {
		wrong := slices.Clone(six)
		wrong[i] = "X"
		expectMake(t, wrong, "V", "", api.ErrFull)
		expectMake(t, wrong, "X", "", api.ErrFull)
		expectMake(t, wrong[:5], "X", "", api.ErrForm)
	}
	expectMake(t, make([]string, 1<<16), "", "", api.ErrFull)
}

// TestArgumentsKept gives Make a list with room behind its end, because an
// append within the package would write there (rule P2).
func TestArgumentsKept(t *testing.T) {
	whole := []string{"I", "LA;", "[J", "behind", "the end"}
	kept := slices.Clone(whole)
	for range 2 {
		expectMake(t, whole[:3], "V", "(ILA;[J)V", nil)
		expectMake(t, whole[:4], "V", "", api.ErrForm)
		if !slices.Equal(whole, kept) {
			t.Fatalf("Make has changed its argument to %q", whole)
		}
	}
}

// TestResultsAreNew changes the list that one call returned and asks again
// (rule P2).
func TestResultsAreNew(t *testing.T) {
	for range 3 {
		args, gives, err := desc.Method("(I[LA;J)J")
		if !slices.Equal(args, []string{"I", "[LA;", "J"}) || gives != "J" || err != nil {
			t.Fatalf("Method = %q, %q, %v", args, gives, err)
		}
		for i := range args {
			args[i] = "changed"
		}
		_ = append(args, "changed")
	}
}

// TestLongTexts has texts that a search which starts anew at each byte would
// not finish in time (rule P1).
func TestLongTexts(t *testing.T) {
	for _, s := range []string{"[", "I", "L", "LA;", "(", ")", "V", ";", "a"} {
		long := strings.Repeat(s, 1<<20)
		expectType(t, long, false)
		for _, m := range []string{long, "(" + long + ")V", "(" + long, "()" + long, "(L" + long + ";)V"} {
			if args, gives, err := desc.Method(m); args != nil || gives != "" || err != api.ErrForm {
				t.Errorf("Method of a long text of %q = %q, %q, %v", s, args, gives, err)
			}
		}
		expectMake(t, []string{"I", long}, "V", "", api.ErrForm)
		expectMake(t, []string{"I"}, long, "", api.ErrForm)
	}
}

func ExampleMethod() {
	fmt.Println(desc.Method("(I[LA;)J"))
	fmt.Println(desc.Method("(V)V"))
	// Output:
	// [I [LA;] J <nil>
	// []  ErrForm
}

func ExampleMake() {
	fmt.Println(desc.Make([]string{"I"}, "V"))
	// Output: (I)V <nil>
}

func FuzzCheck(f *testing.F) {
	for _, s := range append(types(), noTypes()...) {
		f.Add(s)
	}
	f.Fuzz(func(t *testing.T, s string) {
		expectType(t, s, typeShape.MatchString(s))
	})
}

func FuzzMethod(f *testing.F) {
	for _, m := range []string{"", "()V", "(I[LA;)J", "(IIIIII)V", "(V)V", "([[[[I)V", "(LA;LA;LA;LA;LA;)[[[LA;"} {
		f.Add(m)
	}
	f.Fuzz(expectMethod)
}

func FuzzMake(f *testing.F) {
	f.Add("I,J,LA;", "V")
	f.Add("I,J,I,J,I,J", "X")
	f.Add("LA,;", "LA;")
	f.Fuzz(func(t *testing.T, list, gives string) {
		args := strings.Split(list, ",")
		wrong := slices.ContainsFunc(args, func(s string) bool { return !typeShape.MatchString(s) })
		switch {
		case len(args) > 5:
			expectMake(t, args, gives, "", api.ErrFull)
		case wrong || !resultShape.MatchString(gives):
			expectMake(t, args, gives, "", api.ErrForm)
		default:
			expectMake(t, args, gives, "("+strings.Join(args, "")+")"+gives, nil)
		}
	})
}
