package ins_test

import (
	"fmt"
	"math"
	"math/big"
	"regexp"
	"slices"
	"strings"
	"testing"

	"coffeehouse/api"
	"coffeehouse/ins"
)

// law states IN1 and IN2 for one operation, with nothing in common with the
// package: the limits are written out as the chapter gives them.
type law struct {
	fields string // of the letters A, B, T (Type), C (Class) and N (Name)
	a, b   limits
	shape  *regexp.Regexp // of Type
}

type limits struct{ from, to int }

const (
	namePattern   = `[A-Za-z_][A-Za-z0-9_]{0,19}`
	itemPattern   = `(?:I|J|L` + namePattern + `;)`
	typePattern   = `\[{0,3}` + itemPattern
	methodPattern = `\((?:` + typePattern + `){0,5}\)(?:V|` + typePattern + `)`
)

var (
	nameShape      = regexp.MustCompile(`\A` + namePattern + `\z`)
	wordShape      = regexp.MustCompile(`\A[IJ]\z`)
	elementShape   = regexp.MustCompile(`\A\[{0,2}` + itemPattern + `\z`)
	referenceShape = regexp.MustCompile(`\A(?:\[{1,3}` + itemPattern + `|L` + namePattern + `;)\z`)
	methodShape    = regexp.MustCompile(`\A` + methodPattern + `\z`)
	numberShape    = regexp.MustCompile(`\A(?:0|-?[1-9][0-9]*)\z`)
)

const (
	least    = math.MinInt
	greatest = math.MaxInt
	longest  = "abcdefghijklmnopqrst" // a name of MaxName bytes
)

// words has the name of each operation in lower case at its number.
var words = strings.Fields("- nop push null load store pop dup swap math conv order if ifnull goto new get put " +
	"newarray length aload astore cast is call calls return give throw")

var laws = map[string]law{
	"nop":      {},
	"push":     {fields: "AT", a: limits{least, greatest}, shape: wordShape},
	"null":     {},
	"load":     {fields: "A", a: limits{0, 7}},
	"store":    {fields: "A", a: limits{0, 7}},
	"pop":      {},
	"dup":      {},
	"swap":     {},
	"math":     {fields: "AT", a: limits{1, 12}, shape: wordShape},
	"conv":     {fields: "T", shape: wordShape},
	"order":    {},
	"if":       {fields: "AB", a: limits{0, 40}, b: limits{0, 5}},
	"ifnull":   {fields: "A", a: limits{0, 40}},
	"goto":     {fields: "A", a: limits{0, 40}},
	"new":      {fields: "C"},
	"get":      {fields: "CN"},
	"put":      {fields: "CN"},
	"newarray": {fields: "T", shape: elementShape},
	"length":   {},
	"aload":    {fields: "T", shape: elementShape},
	"astore":   {fields: "T", shape: elementShape},
	"cast":     {fields: "T", shape: referenceShape},
	"is":       {fields: "T", shape: referenceShape},
	"call":     {fields: "TCN", shape: methodShape},
	"calls":    {fields: "TCN", shape: methodShape},
	"return":   {},
	"give":     {},
	"throw":    {},
}

func (l limits) contain(n int) bool { return l.from <= n && n <= l.to }

func (l law) has(field string) bool { return strings.Contains(l.fields, field) }

// wantCheck returns the error that IN1 asks for.
func wantCheck(x api.Ins) error {
	if x.Op < 1 || x.Op > 28 {
		return api.ErrForm
	}
	l := laws[words[x.Op]]
	if x.A != 0 && !l.has("A") || x.B != 0 && !l.has("B") || x.Type != "" && !l.has("T") ||
		x.Class != "" && !l.has("C") || x.Name != "" && !l.has("N") {
		return api.ErrForm
	}
	if x.Op == 2 && x.Type == "I" {
		l.a = limits{-2147483648, 2147483647}
	}
	if !l.a.contain(x.A) || !l.b.contain(x.B) {
		return api.ErrRange
	}
	if l.has("T") && !l.shape.MatchString(x.Type) || l.has("C") && !nameShape.MatchString(x.Class) ||
		l.has("N") && !nameShape.MatchString(x.Name) {
		return api.ErrForm
	}
	return nil
}

// wantText returns the text that IN2 asks for.
func wantText(x api.Ins) string {
	s := words[x.Op]
	l := laws[s]
	for _, f := range []struct {
		letter string
		value  any
	}{{"A", x.A}, {"B", x.B}, {"T", x.Type}, {"C", x.Class}, {"N", x.Name}} {
		if l.has(f.letter) {
			s = fmt.Sprint(s, " ", f.value)
		}
	}
	return s
}

// wantParse takes the words of s one by one, and refuses what is wrong where
// it stands.
func wantParse(s string) (api.Ins, bool) {
	parts := strings.Split(s, " ")
	op := slices.Index(words[1:], parts[0]) + 1
	if op == 0 || len(parts) != 1+len(laws[parts[0]].fields) {
		return api.Ins{}, false
	}
	x := api.Ins{Op: op}
	for i, letter := range laws[parts[0]].fields {
		part := parts[1+i]
		ok := true
		switch letter {
		case 'A':
			x.A, ok = number(part)
		case 'B':
			x.B, ok = number(part)
		case 'T':
			x.Type = part
		case 'C':
			x.Class = part
		case 'N':
			x.Name = part
		}
		if !ok {
			return api.Ins{}, false
		}
	}
	if wantCheck(x) != nil {
		return api.Ins{}, false
	}
	return x, true
}

// number reads a decimal number in its only form.
func number(s string) (int, bool) {
	if !numberShape.MatchString(s) {
		return 0, false
	}
	n, ok := new(big.Int).SetString(s, 10)
	if !ok || !n.IsInt64() {
		return 0, false
	}
	return int(n.Int64()), true
}

// show shortens the strings, because some tests have long ones.
func show(x api.Ins) string {
	return fmt.Sprintf("{Op:%d A:%d B:%d Type:%.60q Class:%.60q Name:%.60q}", x.Op, x.A, x.B, x.Type, x.Class, x.Name)
}

// expectCheck compares with errors by ==, because rule P3 demands them
// themselves and not what wraps them.
func expectCheck(t *testing.T, x api.Ins, want error) {
	t.Helper()
	if err := ins.Check(x); err != want {
		t.Errorf("Check(%s) = %v, want %v", show(x), err, want)
	}
	s, err := ins.Text(x)
	if err != want || want != nil && s != "" {
		t.Errorf("Text(%s) = %.200q, %v, want %v", show(x), s, err, want)
	}
}

// expectBoth has an instruction and its text, and asks for both directions.
func expectBoth(t *testing.T, x api.Ins, want string) {
	t.Helper()
	expectCheck(t, x, nil)
	if s, err := ins.Text(x); s != want || err != nil {
		t.Errorf("Text(%s) = %.200q, %v, want %.200q, nil", show(x), s, err, want)
	}
	if y, err := ins.Parse(want); y != x || err != nil {
		t.Errorf("Parse(%.200q) = %s, %v, want %s, nil", want, show(y), err, show(x))
	}
}

func expectNone(t *testing.T, s string) {
	t.Helper()
	if x, err := ins.Parse(s); err != api.ErrForm || x != (api.Ins{}) {
		t.Errorf("Parse(%.200q) = %s, %v, want ErrForm alone", s, show(x), err)
	}
}

// expectLawful compares an instruction with the laws.
func expectLawful(t *testing.T, x api.Ins) {
	t.Helper()
	want := wantCheck(x)
	expectCheck(t, x, want)
	if want == nil {
		expectBoth(t, x, wantText(x))
	}
}

// expectParse compares a text with the laws.
func expectParse(t *testing.T, s string) {
	t.Helper()
	if x, ok := wantParse(s); ok {
		expectBoth(t, x, s)
	} else {
		expectNone(t, s)
	}
}

type pair struct {
	text string
	x    api.Ins
}

// plainPairs has the operations without a type or a name, with their limits.
func plainPairs() []pair {
	return []pair{
		{"nop", api.Ins{Op: api.Nop}},
		{"null", api.Ins{Op: api.Null}},
		{"load 0", api.Ins{Op: api.Load}},
		{"load 7", api.Ins{Op: api.Load, A: 7}},
		{"store 0", api.Ins{Op: api.Store}},
		{"store 7", api.Ins{Op: api.Store, A: 7}},
		{"pop", api.Ins{Op: api.Pop}},
		{"dup", api.Ins{Op: api.Dup}},
		{"swap", api.Ins{Op: api.Swap}},
		{"order", api.Ins{Op: api.Order}},
		{"if 0 0", api.Ins{Op: api.If}},
		{"if 3 2", api.Ins{Op: api.If, A: 3, B: 2}},
		{"if 5 1", api.Ins{Op: api.If, A: 5, B: 1}},
		{"if 40 5", api.Ins{Op: api.If, A: 40, B: 5}},
		{"ifnull 0", api.Ins{Op: api.IfNull}},
		{"ifnull 40", api.Ins{Op: api.IfNull, A: 40}},
		{"goto 0", api.Ins{Op: api.Goto}},
		{"goto 10", api.Ins{Op: api.Goto, A: 10}},
		{"goto 40", api.Ins{Op: api.Goto, A: 40}},
		{"length", api.Ins{Op: api.Length}},
		{"return", api.Ins{Op: api.Return}},
		{"give", api.Ins{Op: api.Give}},
		{"throw", api.Ins{Op: api.Throw}},
	}
}

// typedPairs has the operations with a type or a name, with their limits.
func typedPairs() []pair {
	full := strings.Repeat("[[[L"+longest+";", 5)
	return []pair{
		{"push 5 I", api.Ins{Op: api.Push, A: 5, Type: "I"}},
		{"push 0 I", api.Ins{Op: api.Push, Type: "I"}},
		{"push -1 J", api.Ins{Op: api.Push, A: -1, Type: "J"}},
		{"push -2147483648 I", api.Ins{Op: api.Push, A: -2147483648, Type: "I"}},
		{"push 2147483647 I", api.Ins{Op: api.Push, A: 2147483647, Type: "I"}},
		{"push -2147483649 J", api.Ins{Op: api.Push, A: -2147483649, Type: "J"}},
		{"push 2147483648 J", api.Ins{Op: api.Push, A: 2147483648, Type: "J"}},
		{"push -9223372036854775808 J", api.Ins{Op: api.Push, A: least, Type: "J"}},
		{"push 9223372036854775807 J", api.Ins{Op: api.Push, A: greatest, Type: "J"}},
		{"math 1 I", api.Ins{Op: api.Math, A: api.AddM, Type: "I"}},
		{"math 12 J", api.Ins{Op: api.Math, A: api.NegM, Type: "J"}},
		{"conv I", api.Ins{Op: api.Conv, Type: "I"}},
		{"conv J", api.Ins{Op: api.Conv, Type: "J"}},
		{"new A", api.Ins{Op: api.New, Class: "A"}},
		{"new " + longest, api.Ins{Op: api.New, Class: longest}},
		{"get A f", api.Ins{Op: api.Get, Class: "A", Name: "f"}},
		{"put _ _1", api.Ins{Op: api.Put, Class: "_", Name: "_1"}},
		{"newarray I", api.Ins{Op: api.NewArray, Type: "I"}},
		{"newarray [[LA;", api.Ins{Op: api.NewArray, Type: "[[LA;"}},
		{"aload LA;", api.Ins{Op: api.ALoad, Type: "LA;"}},
		{"astore [[J", api.Ins{Op: api.AStore, Type: "[[J"}},
		{"cast LA;", api.Ins{Op: api.Cast, Type: "LA;"}},
		{"cast [[[I", api.Ins{Op: api.Cast, Type: "[[[I"}},
		{"is [J", api.Ins{Op: api.Is, Type: "[J"}},
		{"call ()V A f", api.Ins{Op: api.Call, Type: "()V", Class: "A", Name: "f"}},
		{"calls (I[LA;)J B_2 nop", api.Ins{Op: api.CallS, Type: "(I[LA;)J", Class: "B_2", Name: "nop"}},
		{"calls (" + full + ")" + full[:25] + " " + longest + " " + longest,
			api.Ins{Op: api.CallS, Type: "(" + full + ")" + full[:25], Class: longest, Name: longest}},
	}
}

func pairs() []pair { return append(plainPairs(), typedPairs()...) }

func TestTexts(t *testing.T) {
	found := map[int]bool{}
	for _, p := range pairs() {
		expectBoth(t, p.x, p.text)
		expectLawful(t, p.x)
		found[p.x.Op] = true
	}
	if len(found) != 28 {
		t.Errorf("%d operations have a text here, want all 28", len(found))
	}
}

// TestNoOperation has, beside wrong numbers, ones that a count of 8, 16 or 32
// bits would take for right ones.
func TestNoOperation(t *testing.T) {
	for n := range 300 {
		for _, op := range []int{n, -n, n + 256, n + 65536, n + 1<<32, n - 1<<32, least + n, greatest - n} {
			if 1 <= op && op <= 28 {
				continue
			}
			expectCheck(t, api.Ins{Op: op}, api.ErrForm)
			expectCheck(t, api.Ins{Op: op, A: -1, B: 99}, api.ErrForm)
			expectCheck(t, api.Ins{Op: op, A: 1, B: 1, Type: "I", Class: "A", Name: "f"}, api.ErrForm)
		}
	}
}

// numbers surround every limit, and what a number of fewer bits would take for
// one within.
func numbers() []int {
	l := []int{least, least + 1, greatest - 1, greatest}
	for n := -70; n <= 300; n++ {
		l = append(l, n, n+65536, n+1<<32, n-1<<32)
	}
	for d := -2; d <= 2; d++ {
		l = append(l, math.MinInt32+d, math.MaxInt32+d, math.MaxUint32+d)
	}
	return l
}

// texts has types and method types of each shape, names, and neither.
func texts() []string {
	return []string{
		"", "I", "J", "V", "LA;", "LI;", "La_1;", "L" + longest + ";", "[I", "[[J", "[[LA;", "[[[I", "[[[J", "[[[LA;",
		"[[[[I", "[[[[LA;", "[", "[[", "[V", "L;", "LA", "L1;", "L" + longest + "u;", "II", "IJ", "i", "j", " I", "I ",
		"I\n", "\xff", "LA;LA;", "()V", "(I)J", "(IJILA;[[[LB;)[[[LC;", "(IIIIII)V", "(V)V", "()", "()VV", "([[[[I)V",
		"(I)V ", "(I I)V", "A", "f", "a_1", "_", "nop", longest, longest + "u", "1", "1a", "a-b", "a b", " a", "a ", "<init>",
		"a\x00", "\u00e9",
	}
}

// TestFieldsOfOthers gives each instruction each field that its operation does
// not have, which precedes the errors of the others.
func TestFieldsOfOthers(t *testing.T) {
	for _, p := range pairs() {
		l := laws[words[p.x.Op]]
		for _, wrong := range []int{0, -1, 1 << 40} {
			x := p.x
			if wrong != 0 && l.has("A") {
				x.A = wrong
			}
			for _, n := range numbers() {
				if y := x; n != 0 && !l.has("A") {
					y.A = n
					expectCheck(t, y, api.ErrForm)
				}
				if y := x; n != 0 && !l.has("B") {
					y.B = n
					expectCheck(t, y, api.ErrForm)
				}
			}
			for _, s := range texts()[1:] {
				if y := x; !l.has("T") {
					y.Type = s
					expectCheck(t, y, api.ErrForm)
				}
				if y := x; !l.has("C") {
					y.Class = s
					expectCheck(t, y, api.ErrForm)
				}
				if y := x; !l.has("N") {
					y.Name = s
					expectCheck(t, y, api.ErrForm)
				}
			}
		}
	}
}

// TestRanges gives each number to each operation that has one.
func TestRanges(t *testing.T) {
	inRange := func(ok bool) error {
		if ok {
			return nil
		}
		return api.ErrRange
	}
	for _, n := range numbers() {
		target := inRange(0 <= n && n <= 40)
		expectCheck(t, api.Ins{Op: api.Push, A: n, Type: "I"}, inRange(-1<<31 <= n && n < 1<<31))
		expectCheck(t, api.Ins{Op: api.Push, A: n, Type: "J"}, nil)
		expectCheck(t, api.Ins{Op: api.Load, A: n}, inRange(0 <= n && n < 8))
		expectCheck(t, api.Ins{Op: api.Store, A: n}, inRange(0 <= n && n < 8))
		expectCheck(t, api.Ins{Op: api.Math, A: n, Type: "I"}, inRange(1 <= n && n <= 12))
		expectCheck(t, api.Ins{Op: api.Math, A: n, Type: "J"}, inRange(1 <= n && n <= 12))
		expectCheck(t, api.Ins{Op: api.IfNull, A: n}, target)
		expectCheck(t, api.Ins{Op: api.Goto, A: n}, target)
		for b := range 6 {
			expectCheck(t, api.Ins{Op: api.If, A: n, B: b}, target)
		}
		for a := range 41 {
			expectCheck(t, api.Ins{Op: api.If, A: a, B: n}, inRange(0 <= n && n <= 5))
		}
	}
}

// TestTypesAndNames replaces one field at a time of instructions that are
// right.
func TestTypesAndNames(t *testing.T) {
	for _, p := range typedPairs() {
		l := laws[words[p.x.Op]]
		for _, s := range texts() {
			if x := p.x; l.has("T") {
				x.Type = s
				expectLawful(t, x)
			}
			if x := p.x; l.has("C") {
				x.Class = s
				expectLawful(t, x)
			}
			if x := p.x; l.has("N") {
				x.Name = s
				expectLawful(t, x)
			}
		}
	}
}

// TestForms names the types that each operation refuses though others have
// them.
func TestForms(t *testing.T) {
	for op, list := range map[int]string{
		api.Push: "V LA; [I ()V II", api.Math: "V LA; [J ()V JJ", api.Conv: "V LA; [I ()V IJ",
		api.NewArray: "V [[[I [[[LA; ()V A", api.ALoad: "V [[[J [[[LA; ()V A", api.AStore: "V [[[I [[[LA; ()V A",
		api.Cast: "I J V [[[[I [[[[LA; ()V A", api.Is: "I J V [[[[J [[[[LA; ()V A",
		api.Call: "I J V LA; [I ()", api.CallS: "I J V LA; [I ()",
	} {
		x := api.Ins{Op: op}
		if op == api.Math {
			x.A = 1
		}
		if op == api.Call || op == api.CallS {
			x.Class, x.Name = "A", "f"
		}
		for _, s := range append(strings.Fields(list), "") {
			x.Type = s
			expectCheck(t, x, api.ErrForm)
		}
	}
	for _, op := range []int{api.New, api.Get, api.Put} {
		expectCheck(t, api.Ins{Op: op}, api.ErrForm)
		expectCheck(t, api.Ins{Op: op, Class: "A", Name: "1"}, api.ErrForm)
		expectCheck(t, api.Ins{Op: op, Name: "f"}, api.ErrForm)
		expectCheck(t, api.Ins{Op: op, Class: "LA;", Name: "f"}, api.ErrForm)
	}
}

// TestOrderOfErrors has two errors at once wherever one instruction can.
func TestOrderOfErrors(t *testing.T) {
	for _, c := range []struct {
		x    api.Ins
		want error
	}{
		// a field too many, and a number out of range
		{api.Ins{Op: api.Push, A: 1 << 31, B: 1, Type: "I"}, api.ErrForm},
		{api.Ins{Op: api.Push, A: 1 << 31, Type: "I", Class: "A"}, api.ErrForm},
		{api.Ins{Op: api.Load, A: 8, Type: "I"}, api.ErrForm},
		{api.Ins{Op: api.Store, A: -1, B: 1}, api.ErrForm},
		{api.Ins{Op: api.If, A: 41, B: 6, Type: "I"}, api.ErrForm},
		{api.Ins{Op: api.IfNull, A: 41, B: 1}, api.ErrForm},
		{api.Ins{Op: api.Goto, A: -1, Class: "A"}, api.ErrForm},
		{api.Ins{Op: api.Math, A: 13, B: 1, Type: "I"}, api.ErrForm},
		{api.Ins{Op: api.Math, A: 0, Type: "I", Name: "f"}, api.ErrForm},
		// a number out of range, and a wrong type
		{api.Ins{Op: api.Math, A: 0, Type: "LA;"}, api.ErrRange},
		{api.Ins{Op: api.Math, A: 13}, api.ErrRange},
		{api.Ins{Op: api.Math}, api.ErrRange},
		// two numbers out of range
		{api.Ins{Op: api.If, A: 41, B: 6}, api.ErrRange},
		{api.Ins{Op: api.If, A: -1, B: -1}, api.ErrRange},
		// a number that only the type I does not have, with another type
		{api.Ins{Op: api.Push, A: 1 << 31, Type: "J"}, nil},
		{api.Ins{Op: api.Push, A: 1 << 31, Type: "V"}, api.ErrForm},
		{api.Ins{Op: api.Push, A: 1 << 31, Type: "[I"}, api.ErrForm},
		{api.Ins{Op: api.Push, A: -1<<31 - 1}, api.ErrForm},
	} {
		expectCheck(t, c.x, c.want)
	}
}

// TestProduct leaves no combination of some values of all fields out.
func TestProduct(t *testing.T) {
	for op := -1; op <= 30; op++ {
		for _, a := range []int{-1, 0, 1, 7, 8, 12, 13, 40, 41, math.MaxInt32, math.MaxInt32 + 1, math.MinInt32 - 1} {
			for _, b := range []int{-1, 0, 1, 5, 6} {
				for _, kind := range []string{"", "I", "J", "LA;", "[[I", "[[[I", "[[[[I", "()V", "V"} {
					for _, class := range []string{"", "A", "1"} {
						for _, name := range []string{"", "f", "-"} {
							expectLawful(t, api.Ins{Op: op, A: a, B: b, Type: kind, Class: class, Name: name})
						}
					}
				}
			}
		}
	}
}

func TestParseNothing(t *testing.T) {
	for _, s := range []string{
		"", " ", "  ", "\n", "-", "0", "1", "A", "I", "np", "no", "nope", "nop0", "nop 0", "nop I", "NOP", "Nop", "nOp",
		" nop", "nop ", "  nop", "nop  ", "\tnop", "nop\n", "nop\r\n", "nop\x00", "nop\u00a0", "nop;nop", "nop nop",
		"PUSH 5 I", "Push 5 I", "push 5 i", "push 5 I ", " push 5 I", "push  5 I", "push 5  I", "push 5\tI", "push\t5 I",
		"push", "push ", "push 5", "push 5 ", "push I", "push I 5", "push 5 I J", "push 5 0 I", "push 5 I A", "push5 I",
		"push 5I", "push 5,I", "push 5 V", "push 5 LA;", "push 5 [I", "push 2147483648 I", "push -2147483649 I",
		"push 4294967296 I", "push 4294967301 I", "push 9223372036854775808 J", "push -9223372036854775809 J",
		"push 18446744073709551616 J", "push 18446744073709551621 J", "push 99999999999999999999999 J",
		"load", "load ", "load 8", "load -1", "load x", "load 0 0", "load 256", "store 8", "store", "store -1", "Load 0",
		"math 0 I", "math 13 I", "math -1 I", "math 1", "math I", "math 1 V", "math add I", "math AddM I", "conv", "conv V",
		"conv 1 I", "conv i", "conv LA;", "if 1", "if", "if 41 0", "if -1 0", "if 0 6", "if 0 -1", "if 0 0 0", "if 0,0",
		"ifnull", "ifnull 41", "ifnull -1", "ifnull 0 0", "ifNull 0", "if null 0", "goto", "goto 41", "goto -1", "goto 0 I",
		"new", "new ", "new 1", "new A B", "new LA;", "new " + longest + "u", "get A", "get", "get f", "get A ", "get  f",
		"get A f g", "get A 1", "get 1 f", "put A", "put A  f", "put A f ", "put a-b f", "get I A f",
		"newarray", "newarray V", "newarray [[[I", "newarray A", "newarray I I", "newArray I", "new array I", "aload [[[I",
		"aload", "astore [[[LA;", "astore", "ALoad I", "cast I", "cast J", "cast", "cast A", "cast [[[[I", "is I", "is",
		"is J", "is LA", "isnull", "call", "call ()V", "call ()V A", "call ()V A f g", "call A f ()V", "call A ()V f",
		"call () A f", "call (IIIIII)V A f", "call I A f", "call ()V 1 f", "call ()V A 1", "call (I I)V A f", "callS ()V A f",
		"CallS ()V A f", "calls ()V A", "call s ()V A f", "calls  ()V A f", "return 0", "return I", "give 1", "give I",
		"throw A", "throw ", "Throw", "goto 1\n", "order 1", "length I", "null 0", "pop 1", "dup 1", "swap 1",
		"\u017ftore 0", "push \u0665 I", "push \uff15 I", "\ufeffnop", "nop\u2028", "\xffnop", "nop\xff",
	} {
		expectNone(t, s)
		expectParse(t, s)
	}
}

// noNumbers are written otherwise than IN2 asks for, or have more than 64 bits.
func noNumbers() []string {
	return []string{
		"", "00", "-0", "+0", "000", "-00", "01", "007", "+1", "+01", "-01", "--1", "+-1", "-+1", "- 1", "-", "+", "1-", "1+",
		"0x1", "0X1", "0b1", "0o1", "1_0", "_1", "1_", "1.", "1.0", ".1", "1e0", "1e1", "1E0", "1,0", "1'0", "1i", "1L", "NaN",
		"Inf", "a", "true", "'1'", "\"1\"", "1\x00", "\x001", "1\n", "\n1", "\t1", "1\t", "(1)", "1\u00a0", "1\xff",
		"\u0661", "\uff11", "\u00b9", "\u22121", "09223372036854775807", "-09223372036854775808", "+9223372036854775807",
		"9223372036854775808", "-9223372036854775809", "18446744073709551615", "18446744073709551616", "18446744073709551617",
		"-18446744073709551615", "340282366920938463463374607431768211457",
	}
}

// TestNumbers puts numbers and what is none at every place that has a number.
func TestNumbers(t *testing.T) {
	frames := []string{"push # I", "push # J", "load #", "store #", "math # I", "if # 1", "if 1 #", "ifnull #", "goto #"}
	for _, frame := range frames {
		for _, s := range noNumbers() {
			expectNone(t, strings.Replace(frame, "#", s, 1))
			expectParse(t, strings.Replace(frame, "#", s, 1))
		}
		for _, n := range numbers() {
			for _, head := range []string{"", "0", "+", "-", "-0", "00"} {
				expectParse(t, strings.Replace(frame, "#", fmt.Sprint(head, n), 1))
			}
		}
	}
}

// TestUpperCase writes letters of the operations in upper case, all, the first
// one, and one at a time.
func TestUpperCase(t *testing.T) {
	for _, p := range pairs() {
		word, rest, _ := strings.Cut(p.text, " ")
		if rest != "" {
			rest = " " + rest
		}
		expectNone(t, strings.ToUpper(word)+rest)
		expectNone(t, strings.ToUpper(p.text))
		for i := range word {
			expectNone(t, word[:i]+strings.ToUpper(word[i:i+1])+word[i+1:]+rest)
			expectNone(t, word[:i]+strings.ToUpper(word[i:])+rest)
		}
	}
}

// TestEveryByte puts each of the 256 bytes at each place of a text, both
// instead of a byte and in between, and takes each byte away.
func TestEveryByte(t *testing.T) {
	for _, p := range pairs() {
		s := p.text
		if len(s) > 60 {
			continue
		}
		for i := range len(s) + 1 {
			for b := range 256 {
				put := string([]byte{byte(b)})
				expectParse(t, s[:i]+put+s[i:])
				if i < len(s) {
					expectParse(t, s[:i]+put+s[i+1:])
				}
			}
			expectParse(t, s[:i])
			expectParse(t, s[i:])
			if i < len(s) {
				expectParse(t, s[:i]+s[i+1:])
			}
		}
	}
}

// TestFieldsOfTexts leaves out, repeats, exchanges and empties the words of
// each text, and separates them otherwise.
func TestFieldsOfTexts(t *testing.T) {
	for _, p := range pairs() {
		l := strings.Split(p.text, " ")
		text := func(l ...[]string) string { return strings.Join(slices.Concat(l...), " ") }
		for i := range l {
			expectNone(t, text(l[:i], l[i+1:]))
			expectNone(t, text(l[:i], []string{""}, l[i+1:]))
			for _, more := range []string{"", "0", "1", "I", "J", "A", "LA;", "()V", "nop", " "} {
				expectNone(t, text(l[:i], []string{more}, l[i:]))
				expectNone(t, text(l, []string{more}))
			}
			for j := i + 1; j < len(l); j++ {
				m := slices.Clone(l)
				m[i], m[j] = m[j], m[i]
				expectParse(t, text(m))
			}
			expectNone(t, text(l[:i+1], l[i:]))
		}
		for _, between := range []string{"", "  ", "\t", "\n", "\r", "\v", "\f", ",", ";", " ,", "\x00", "\u00a0", "\u2003", "\u0085"} {
			if len(l) > 1 {
				expectNone(t, strings.Join(l, between))
			}
			expectNone(t, p.text+between+p.text)
			if between != "" {
				expectNone(t, p.text+between)
				expectNone(t, between+p.text)
			}
		}
	}
}

// TestEveryFewWords leaves out no text of up to four of some words.
func TestEveryFewWords(t *testing.T) {
	list := strings.Fields("nop 0 1 5 8 05 -1 41 2147483648 I J V LA; [[[I ()V (I)J A f")
	lines := append(slices.Clone(words), "Nop", "NOP", "if_null", "A", "0", "I", "")
	for n := range 4 {
		var longer []string
		for _, s := range lines {
			expectParse(t, s)
			if n == 3 {
				continue
			}
			longer = append(longer, s+" ")
			for _, w := range list {
				longer = append(longer, s+" "+w)
			}
		}
		lines = longer
	}
}

// TestLong has texts that must be refused in time (rule P1).
func TestLong(t *testing.T) {
	const n = 1 << 20
	for _, s := range []string{" ", "a", "0", "9", "-", "[", "(", "I", "I ", "nop", "nop ", "0 ", "LA;", "\xff"} {
		long := strings.Repeat(s, n)
		for _, head := range []string{
			"", "nop", "nop ", "push", "push ", "push 5", "push 5 ", "push 5 I", "if 3 ", "get A", "get A ", "newarray ",
			"call ()V A ", "call (",
		} {
			expectNone(t, head+long)
			expectNone(t, long+head)
		}
		for _, op := range []int{api.Push, api.NewArray, api.Cast, api.Call, api.Conv} {
			expectLawful(t, api.Ins{Op: op, Type: long, Class: "A", Name: "f"})
			expectLawful(t, api.Ins{Op: op, Type: long})
		}
		expectCheck(t, api.Ins{Op: api.Call, Type: "()V", Class: long, Name: "f"}, api.ErrForm)
		expectCheck(t, api.Ins{Op: api.Get, Class: "A", Name: long}, api.ErrForm)
		expectCheck(t, api.Ins{Op: api.New, Class: long}, api.ErrForm)
	}
}

// TestSameAgain asks twice and with other calls in between, because rule P2
// lets a result depend on nothing but the argument.
func TestSameAgain(t *testing.T) {
	for range 2 {
		for _, p := range pairs() {
			expectBoth(t, p.x, p.text)
			expectNone(t, p.text+" ")
			expectCheck(t, api.Ins{Op: p.x.Op, A: 99, B: 99}, wantCheck(api.Ins{Op: p.x.Op, A: 99, B: 99}))
		}
	}
}

func ExampleText() {
	fmt.Println(ins.Text(api.Ins{Op: api.Push, A: 5, Type: "I"}))
	fmt.Println(ins.Text(api.Ins{Op: api.Load, A: 8}))
	// Output:
	// push 5 I <nil>
	//  ErrRange
}

func ExampleParse() {
	fmt.Println(ins.Parse("if 3 2"))
	fmt.Println(ins.Parse("push 05 I"))
	// Output:
	// {12 3 2   } <nil>
	// {0 0 0   } ErrForm
}

func FuzzParse(f *testing.F) {
	for _, p := range pairs() {
		f.Add(p.text)
	}
	f.Add("push 05 I")
	f.Fuzz(expectParse)
}

func FuzzCheck(f *testing.F) {
	for _, p := range pairs() {
		f.Add(p.x.Op, p.x.A, p.x.B, p.x.Type, p.x.Class, p.x.Name)
	}
	f.Fuzz(func(t *testing.T, op, a, b int, kind, class, name string) {
		expectLawful(t, api.Ins{Op: op, A: a, B: b, Type: kind, Class: class, Name: name})
	})
}
