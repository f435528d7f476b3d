package sub_test

import (
	"fmt"
	"math/rand"
	"regexp"
	"slices"
	"strings"
	"testing"

	"coffeehouse/api"
	"coffeehouse/sub"
	"coffeehouse/world"
)

const longest = "abcdefghijklmnopqrst" // a name of MaxName bytes

// listed returns the classes with the given texts, between which there are
// semicolons: class or face, the Name, the Super (- for an empty one), and the
// Faces.
func listed(s string) []api.Class {
	var w []api.Class
	for _, text := range strings.Split(s, "; ") {
		words := strings.Fields(text)
		w = append(w, api.Class{Face: words[0] == "face", Name: words[1], Super: strings.TrimPrefix(words[2], "-"), Faces: words[3:]})
	}
	return w
}

// whole has as many classes as there may be: A has an interface that has one
// itself, B extends A and has another one, C extends B; D and the interface M
// are beside all others; E is an exception with an interface that has two.
func whole() []api.Class {
	return listed("class C B; class A Object G; class B A H; face F Object; face G Object F; face H Object; class D Object; class E Fault K; face K Object F H; face M Object")
}

// wholeAbove says by hand what is above each class of whole.
func wholeAbove() map[string][]string {
	l := map[string][]string{}
	for _, s := range []string{
		"Object", "Fault Object", "A G F Object", "B A H G F Object", "C B A H G F Object", "D Object", "E Fault K F H Object",
		"F Object", "G F Object", "H Object", "K F H Object", "M Object",
	} {
		words := strings.Fields(s)
		l[words[0]] = append(words[1:], words[0])
	}
	return l
}

// names returns the classes that are there.
func names(w []api.Class) []string {
	l := []string{"Object", "Fault"}
	for _, c := range w {
		l = append(l, c.Name)
	}
	return l
}

// kinds returns all kinds with these classes.
func kinds(names []string) []string {
	items := []string{"I", "J"}
	for _, name := range names {
		items = append(items, "L"+name+";")
	}
	l := []string{"N", "T"}
	for deep := range 4 {
		for _, item := range items {
			l = append(l, strings.Repeat("[", deep)+item)
		}
	}
	return l
}

// closure finds what is above each class by going from classes that are found
// to their parents as many times as there are classes.
func closure(w []api.Class) map[string][]string {
	all := append(slices.Clip(w), api.Class{Name: "Fault", Super: "Object"}, api.Class{Name: "Object"})
	above := map[string][]string{}
	for _, c := range all {
		found := map[string]bool{c.Name: true}
		for range all {
			for _, d := range all {
				for _, s := range append([]string{d.Super}, d.Faces...) {
					found[s] = found[s] || found[d.Name]
				}
			}
		}
		for s := range found {
			if found[s] && s != "" {
				above[c.Name] = append(above[c.Name], s)
			}
		}
	}
	return above
}

// wantFits states SB1 of kinds that are valid, by the number of characters [ and
// what is behind them.
func wantFits(above map[string][]string, from, to string) bool {
	a, b := strings.TrimLeft(from, "["), strings.TrimLeft(to, "[")
	deeper := len(from) - len(a) - (len(to) - len(b))
	switch {
	case to == "T":
		return true
	case from == "N":
		return to != "I" && to != "J"
	case deeper == 0 && a[0] == 'L' && b[0] == 'L':
		return slices.Contains(above[a[1:len(a)-1]], b[1:len(b)-1])
	case deeper > 0:
		return b == "LObject;"
	}
	return deeper == 0 && a == b
}

var kindPattern = regexp.MustCompile(`^(N|T|\[{0,3}(I|J|L([A-Za-z_][A-Za-z0-9_]{0,19});))\z`)

// wantError states the errors of Fits for classes that are valid.
func wantError(w []api.Class, from, to string) error {
	a, b := kindPattern.FindStringSubmatch(from), kindPattern.FindStringSubmatch(to)
	if a == nil || b == nil {
		return api.ErrForm
	}
	for _, name := range []string{a[3], b[3]} {
		if name != "" && !slices.Contains(names(w), name) {
			return api.ErrNone
		}
	}
	return nil
}

// show writes a list in few words, even if it is long.
func show(w []api.Class) string {
	s := fmt.Sprintf("%+v", w)
	return s[:min(len(s), 1000)]
}

// expectIs compares errors by ==, because rule P3 demands the error itself and
// not one that wraps it.
func expectIs(t *testing.T, w []api.Class, a, b string, want bool, wanted error) {
	t.Helper()
	if got, err := sub.Is(w, a, b); got != want || err != wanted {
		t.Fatalf("Is(%s, %q, %q) = %v, %v, want %v, %v", show(w), a, b, got, err, want, wanted)
	}
}

func expectFits(t *testing.T, w []api.Class, from, to string, want bool, wanted error) {
	t.Helper()
	if got, err := sub.Fits(w, from, to); got != want || err != wanted {
		t.Fatalf("Fits(%s, %q, %q) = %v, %v, want %v, %v", show(w), from, to, got, err, want, wanted)
	}
}

// expectPairs has the results for all pairs of classes and of kinds.
func expectPairs(t *testing.T, w []api.Class, above map[string][]string) {
	t.Helper()
	for _, a := range names(w) {
		for _, b := range names(w) {
			expectIs(t, w, a, b, slices.Contains(above[a], b), nil)
		}
	}
	for _, from := range kinds(names(w)) {
		for _, to := range kinds(names(w)) {
			expectFits(t, w, from, to, wantFits(above, from, to), nil)
		}
	}
}

// TestWhole has all pairs, with the classes in several orders.
func TestWhole(t *testing.T) {
	w := whole()
	for range w {
		expectPairs(t, w, wholeAbove())
		w = append(w[1:], w[0])
	}
	slices.Reverse(w)
	expectPairs(t, w, wholeAbove())
}

// TestNoClasses has only the classes that are always there.
func TestNoClasses(t *testing.T) {
	for _, w := range [][]api.Class{nil, {}} {
		expectPairs(t, w, map[string][]string{"Object": {"Object"}, "Fault": {"Object", "Fault"}})
	}
}

// pairs returns the pairs of a text, between which there are commas.
func pairs(s string) [][2]string {
	var l [][2]string
	for _, text := range strings.Split(s, ",") {
		words := strings.Fields(text)
		l = append(l, [2]string{words[0], words[1]})
	}
	return l
}

// expectListed asks for all pairs of the texts.
func expectListed(t *testing.T, ask func(w []api.Class, a, b string) (bool, error), want bool, texts map[string]string) {
	t.Helper()
	for what, s := range texts {
		for _, p := range pairs(s) {
			if got, err := ask(whole(), p[0], p[1]); got != want || err != nil {
				t.Errorf("%s: the result for %v is %v, %v, want %v, nil", what, p, got, err, want)
			}
		}
	}
}

// TestIsByHand has what the chapters say of Is, pair by pair.
func TestIsByHand(t *testing.T) {
	expectListed(t, sub.Is, true, map[string]string{
		"itself":                       "C C, B B, A A, D D, E E, F F, K K, M M, Object Object, Fault Fault",
		"superclass":                   "C B, B A, A Object, E Fault, Fault Object",
		"superclass of the superclass": "C A, B Object, C Object, E Object",
		"Faces":                        "A G, B H, E K, G F, K F, K H",
		"Faces of the superclass":      "B G, C H, C G",
		"Faces of Faces":               "A F, B F, C F, E F, E H",
		"Object of an interface":       "F Object, G Object, H Object, K Object, M Object",
	})
	expectListed(t, sub.Is, false, map[string]string{
		"below it":              "B C, A B, A C, Object A, Object C, Fault E, Object Fault, G A, H B, K E, F G, F A, F C, Object F, Object M, Object D",
		"beside it":             "A D, D A, C D, C E, E C, C Fault, Fault C, D Fault",
		"interfaces beside it":  "A H, A K, A M, B K, C M, D F, D M, E G, E M, Fault K, Fault F, Fault M",
		"interfaces among them": "G H, H G, F H, H F, G K, K G, M F, F M, M K, K M",
		"interface and class":   "F A, F D, H C, K Fault, M D",
	})
}

// TestFitsByHand has each case of SB1, and pairs that are in none.
func TestFitsByHand(t *testing.T) {
	expectListed(t, sub.Fits, true, map[string]string{
		"anything as T":       "I T, J T, N T, T T, LA; T, LF; T, LObject; T, LFault; T, [I T, [J T, [LA; T, [LObject; T, [[I T, [[[J T, [[[LF; T",
		"equal":               "I I, J J, N N, LA; LA;, LF; LF;, LObject; LObject;, [I [I, [J [J, [LA; [LA;, [[I [[I, [[[J [[[J, [[[LC; [[[LC;",
		"null":                "N LA;, N LF;, N LObject;, N LFault;, N [I, N [J, N [LA;, N [LF;, N [[I, N [[[I, N [[[J, N [[[LObject;",
		"classes":             "LC; LB;, LC; LA;, LC; LObject;, LC; LG;, LC; LF;, LB; LH;, LE; LFault;, LE; LF;, LFault; LObject;, LG; LF;, LK; LObject;",
		"array as Object":     "[I LObject;, [J LObject;, [LA; LObject;, [LF; LObject;, [LObject; LObject;, [[I LObject;, [[[J LObject;, [[[LA; LObject;",
		"arrays of classes":   "[LC; [LB;, [LC; [LObject;, [LC; [LF;, [LE; [LFault;, [LF; [LObject;, [[LC; [[LA;, [[[LC; [[[LF;, [[[LF; [[[LObject;",
		"arrays of arrays":    "[[I [LObject;, [[J [LObject;, [[LA; [LObject;, [[LF; [LObject;, [[[I [LObject;, [[[I [[LObject;, [[[LA; [LObject;, [[[LA; [[LObject;",
		"arrays of Object up": "[[LObject; [LObject;, [[[LObject; [LObject;, [[[LObject; [[LObject;",
	})
	expectListed(t, sub.Fits, false, map[string]string{
		"numbers":               "I J, J I, I N, J N, N I, N J, I LObject;, J LObject;, LObject; I, LA; J, I LA;",
		"numbers and arrays":    "I [I, J [J, [I I, [J J, [I J, I [J, I [LObject;, [[I [I, [I [[I, [[[J [J, [J [[[J",
		"arrays of numbers":     "[I [J, [J [I, [[I [[J, [[[J [[[I, [I [LObject;, [J [LObject;, [LObject; [I, [LA; [J, [[I [[LObject;, [[[J [[[LObject;, [[LObject; [[I",
		"T":                     "T I, T J, T N, T LA;, T LF;, T LObject;, T LFault;, T [I, T [LObject;, T [[[J",
		"to null":               "I N, LA; N, LObject; N, LF; N, [I N, [LA; N, [[[J N",
		"classes":               "LB; LC;, LObject; LA;, LA; LD;, LFault; LE;, LF; LA;, LF; LG;, LD; LF;, LA; LH;, LM; LF;, LObject; LF;, LObject; LFault;",
		"array and class":       "[I LA;, [J LFault;, [LA; LA;, [LC; LA;, [LFault; LFault;, [LA; LF;, [LF; LF;, [LG; LF;, [[I LF;, [[[LC; LB;",
		"class and array":       "LObject; [I, LObject; [J, LObject; [LObject;, LObject; [LA;, LObject; [[[LObject;, LC; [LB;, LA; [LA;, LA; [I, LF; [LF;, LA; [LObject;",
		"arrays of classes":     "[LB; [LC;, [LObject; [LA;, [LA; [LD;, [LF; [LA;, [LF; [LG;, [LObject; [LF;, [LObject; [LFault;, [[LA; [[LB;, [[[LObject; [[[LF;, [[[LF; [[[LC;",
		"arrays of arrays":      "[LObject; [[I, [LObject; [[LObject;, [LA; [[LA;, [[LA; [LA;, [[LA; [LF;, [[LC; [LA;, [[[LA; [LF;, [[[LA; [[LA;, [[LObject; [[[J, [[I [LA;, [[I [LFault;",
		"arrays of Object down": "[LObject; [[[LObject;, [[LObject; [[[LObject;, [[LFault; [LFault;, [[LFault; LFault;",
	})
}

// TestPartialOrder has property 5 of the document: kinds are below themselves, no
// two different ones below each other, and each below what is above one above it.
func TestPartialOrder(t *testing.T) {
	l := kinds(names(whole()))
	fits := make([][]bool, len(l))
	for i, from := range l {
		for _, to := range l {
			ok, err := sub.Fits(whole(), from, to)
			if err != nil {
				t.Fatal(from, to, err)
			}
			fits[i] = append(fits[i], ok)
		}
	}
	for i := range l {
		for k := range l {
			if fits[i][k] && fits[k][i] != (i == k) {
				t.Errorf("%s and %s fit each other, or not themselves", l[i], l[k])
			}
			for m := range l {
				if fits[i][k] && fits[k][m] && !fits[i][m] {
					t.Errorf("%s fits %s, which fits %s, and does not fit this", l[i], l[k], l[m])
				}
			}
		}
		if !fits[i][i] {
			t.Errorf("%s does not fit itself", l[i])
		}
	}
}

// TestNamesLikeKinds has classes whose names are those of kinds, or parts of
// them, and a name of MaxName bytes.
func TestNamesLikeKinds(t *testing.T) {
	w := listed("class N Object T; face T Object; class I J; class J Object; face L Object; class V Fault L; class object Object; class Objec object; class " + longest + " V T")
	expectPairs(t, w, map[string][]string{
		"Object": {"Object"},
		"Fault":  {"Fault", "Object"},
		"N":      {"N", "Object", "T"},
		"T":      {"T", "Object"},
		"I":      {"I", "J", "Object"},
		"J":      {"J", "Object"},
		"L":      {"L", "Object"},
		"V":      {"V", "Fault", "Object", "L"},
		"object": {"object", "Object"},
		"Objec":  {"Objec", "object", "Object"},
		longest:  {longest, "V", "Fault", "Object", "L", "T"},
	})
}

// TestContent has classes with fields and methods, which do not matter.
func TestContent(t *testing.T) {
	w := whole()
	for i := range w {
		w[i].Methods = []api.Method{{Name: "m", Type: "()V", Abstract: true}, {Name: "m", Type: "(I)V", Locals: 2, Code: []api.Ins{{Op: api.Return}}}}
		if !w[i].Face {
			w[i].Fields = []api.Field{{Name: "f", Type: "I"}, {Name: "g", Type: "LNone;"}}
		}
	}
	expectPairs(t, w, wholeAbove())
	expectFits(t, w, "LNone;", "T", false, api.ErrNone)
}

// noNames are the names of no class of whole.
func noNames() []string {
	return []string{"None", "N", "T", "I", "J", "L", "V", "a", "f", "AB", "object", "OBJECT", "Objec", "Objects", "fault", "Faults", "_", longest}
}

// noTexts are not even names.
func noTexts() []string {
	return []string{"", " ", "1", "A ", " A", "A;", "LA;", "LObject;", "[A", "[LA;", "-", "A B", "Object\x00", longest + "u", strings.Repeat("A", 1000), "\xff"}
}

// noKinds are texts that are not kinds.
func noKinds() []string {
	return []string{
		"", " ", "n", "t", "i", "j", "V", "L", ";", "[", "[[", "[[[", "[[[[", "NN", "TT", "II", "IJ", "NT", "I ", " I", "T ", " T", "N ", " N", "N;", "T;", "I;", "LN", "LT",
		"[N", "[T", "[[N", "[[T", "[[[N", "[[[T", "[V", "N[", "T[", "I[", "[I[", "[I]", "[II", "[IJ", "[ I", "[[[[I", "[[[[J", "[[[[LA;", "[[[[LObject;", "[[[[[I", "[[[[N",
		"A", "LA", "A;", "L;", "L1;", "L A;", "LA ;", "LA; ", " LA;", "LA;;", "LA;I", "LA;N", "LA;T", "LA;LA;", "LLA;;", "lA;", "Object", "Fault", "LObject", "Object;", "None",
		"[A", "[LA", "[A;", "[L;", "[L1;", "[LA;;", "[LA;I", "[LObject", "[Object", "[[A", "[[[LA", "L[A;", "LA[;", "L[I;", "LA/B;", "LA.B;",
		"()V", "(I)V", "(LA;)LA;", "N\x00", "T\x00", "\x00", "\xff", "LA\x00;", "L" + longest + "u;", "L" + longest, "[L" + longest + "u;", strings.Repeat("[", 1000) + "I", strings.Repeat("I", 1000),
	}
}

// missing has kinds of classes that whole does not have.
func missing() []string {
	var l []string
	for _, name := range noNames() {
		for deep := range 4 {
			l = append(l, strings.Repeat("[", deep)+"L"+name+";")
		}
	}
	return l
}

// TestIsNone has names that are those of no class, in a, in b, and in both.
func TestIsNone(t *testing.T) {
	wrong := append(noNames(), noTexts()...)
	for _, w := range [][]api.Class{whole(), listed("class A Object F; face F Object"), nil} {
		for _, s := range wrong {
			for _, name := range names(w) {
				expectIs(t, w, s, name, false, api.ErrNone)
				expectIs(t, w, name, s, false, api.ErrNone)
			}
			for _, other := range wrong {
				expectIs(t, w, s, other, false, api.ErrNone)
			}
		}
	}
}

// TestFitsForm has texts that are no kinds with kinds, with kinds of classes
// that do not exist, and with each other.
func TestFitsForm(t *testing.T) {
	right := slices.Concat(kinds([]string{"Object", "Fault", "A", "C", "F", "M"}), missing())
	for _, s := range noKinds() {
		for _, other := range slices.Concat(right, noKinds()) {
			expectFits(t, whole(), s, other, false, api.ErrForm)
			expectFits(t, whole(), other, s, false, api.ErrForm)
		}
		expectFits(t, nil, s, "T", false, api.ErrForm)
		expectFits(t, nil, "N", s, false, api.ErrForm)
	}
}

// TestFitsNone has kinds of classes that do not exist, where the kinds alone
// would tell whether they fit, and where not.
func TestFitsNone(t *testing.T) {
	right := kinds([]string{"Object", "Fault", "A", "C", "F", "M"})
	for _, s := range missing() {
		for _, other := range slices.Concat(right, missing()) {
			expectFits(t, whole(), s, other, false, api.ErrNone)
			expectFits(t, whole(), other, s, false, api.ErrNone)
		}
	}
	for _, name := range names(whole())[2:] {
		for _, k := range []string{"L" + name + ";", "[L" + name + ";", "[[[L" + name + ";"} {
			expectFits(t, nil, k, "T", false, api.ErrNone)
			expectFits(t, nil, k, k, false, api.ErrNone)
			expectFits(t, nil, "N", k, false, api.ErrNone)
			expectFits(t, nil, k, "LObject;", false, api.ErrNone)
			expectFits(t, nil, "I", k, false, api.ErrNone)
		}
	}
}

// trouble is a list with an error of world.Check.
type trouble struct {
	w    []api.Class
	want error
}

// troubles has each error of world.Check. In all lists but one there are still
// classes A and F, which the tests ask for.
func troubles() []trouble {
	with := func(s string, change func(c *api.Class)) []api.Class {
		w := listed("class X Object; " + s + "class A Object F; face F Object")
		change(&w[0])
		return w
	}
	method := func(m api.Method) func(c *api.Class) {
		m.Name, m.Type = "m", "()V"
		return func(c *api.Class) { c.Methods = []api.Method{m} }
	}
	super := func(s string) func(c *api.Class) { return func(c *api.Class) { c.Super = s } }
	faces := func(l ...string) func(c *api.Class) { return func(c *api.Class) { c.Faces = l } }
	rename := func(s string) func(c *api.Class) { return func(c *api.Class) { c.Name = s } }
	return []trouble{
		{append(whole(), listed("class X Object")...), api.ErrFull},
		{make([]api.Class, 300), api.ErrFull},
		{with("", rename("")), api.ErrForm},
		{with("", rename("1")), api.ErrForm},
		{with("", super("LA;")), api.ErrForm},
		{with("", faces("F", "F")), api.ErrTwice},
		{with("", faces(strings.Split("abcdefghi", "")...)), api.ErrFull},
		{with("", func(c *api.Class) { c.Fields = []api.Field{{Name: "f", Type: "V"}} }), api.ErrForm},
		{with("", method(api.Method{Locals: 9})), api.ErrRange},
		{with("", method(api.Method{Abstract: true, Static: true})), api.ErrShape},
		{with("", rename("Object")), api.ErrTwice},
		{with("", rename("Fault")), api.ErrTwice},
		{with("", rename("A")), api.ErrTwice},
		{with("", super("")), api.ErrForm},
		{with("", super("None")), api.ErrNone},
		{with("", faces("None")), api.ErrNone},
		{with("", super("F")), api.ErrType},
		{with("", faces("A")), api.ErrType},
		{with("", super("X")), api.ErrRound},
		{with("class Y X; ", super("Y")), api.ErrRound},
		{with("face Z Object Y; face Y Object Z; ", super("A")), api.ErrRound},
	}
}

// TestWorldErrors has each error of world.Check alone and together with each
// one that comes later.
func TestWorldErrors(t *testing.T) {
	found := map[error]bool{}
	classes := []string{"Object", "Fault", "A", "F", "X", "None", "", "1", "LA;"}
	all := []string{"I", "J", "N", "T", "LA;", "LF;", "LX;", "LObject;", "[I", "[LA;", "[[[LObject;", "LNone;", "[LNone;", "[[[LNone;", "", "V", "A", "II", "[N", "[T", "[[[[I"}
	for _, x := range troubles() {
		if err := world.Check(x.w); err != x.want {
			t.Fatalf("world.Check(%s) = %v, want %v", show(x.w), err, x.want)
		}
		found[x.want] = true
		for _, a := range classes {
			for _, b := range classes {
				expectIs(t, x.w, a, b, false, x.want)
			}
		}
		for _, from := range all {
			for _, to := range all {
				expectFits(t, x.w, from, to, false, x.want)
			}
		}
	}
	for _, want := range []error{api.ErrForm, api.ErrRange, api.ErrNone, api.ErrFull, api.ErrTwice, api.ErrRound, api.ErrType, api.ErrShape} {
		if !found[want] {
			t.Errorf("no list gives %v", want)
		}
	}
}

// TestDeep has arrays of MaxDeep characters [, and of one more.
func TestDeep(t *testing.T) {
	for _, item := range []string{"I", "J", "LObject;", "LA;", "LF;"} {
		full := strings.Repeat("[", api.MaxDeep) + item
		expectFits(t, whole(), full, full, true, nil)
		expectFits(t, whole(), full, "LObject;", true, nil)
		expectFits(t, whole(), full, "[[LObject;", true, nil)
		expectFits(t, whole(), "N", full, true, nil)
		expectFits(t, whole(), full, "[[LA;", false, nil)
		expectFits(t, whole(), full, "T", true, nil)
		expectFits(t, whole(), "["+full, "T", false, api.ErrForm)
		expectFits(t, whole(), "["+full, "["+full, false, api.ErrForm)
		expectFits(t, whole(), "N", "["+full, false, api.ErrForm)
		expectFits(t, whole(), full, "["+full, false, api.ErrForm)
	}
}

// TestManyLists has lists from a fixed seed, most of which are valid, one after
// another, so that nothing that is kept from an earlier one goes unnoticed.
func TestManyLists(t *testing.T) {
	r := rand.New(rand.NewSource(9))
	valid := 0
	for range 3000 {
		w := some(r)
		kept := fmt.Sprintf("%#v", w)
		err := world.Check(w)
		if err == nil {
			valid++
		}
		above := closure(w)
		for range 30 {
			expectSome(t, r, w, above, err)
		}
		if now := fmt.Sprintf("%#v", w); now != kept {
			t.Fatalf("the list %s has been changed to %s", kept, now)
		}
	}
	if valid < 1000 || valid > 2900 {
		t.Errorf("%d of 3000 lists are valid", valid)
	}
}

// expectSome has one pair of classes and one of kinds; err is the error of
// world.Check.
func expectSome(t *testing.T, r *rand.Rand, w []api.Class, above map[string][]string, err error) {
	t.Helper()
	one := func(l []string) string { return l[r.Intn(len(l))] }
	a, b := one(append(names(w), "None")), one(append(names(w), "None"))
	wanted := err
	if err == nil && (a == "None" || b == "None") {
		wanted = api.ErrNone
	}
	expectIs(t, w, a, b, wanted == nil && slices.Contains(above[a], b), wanted)
	from, to := one(kinds(append(names(w), "None"))), one(kinds(append(names(w), "None")))
	if r.Intn(20) == 0 {
		from = one(noKinds())
	}
	if wanted = err; err == nil {
		wanted = wantError(w, from, to)
	}
	expectFits(t, w, from, to, wanted == nil && wantFits(above, from, to), wanted)
}

// some has classes that are above each other as they are in the list, before it
// is shuffled, with few names, so that the same ones have other places in other
// lists.
func some(r *rand.Rand) []api.Class {
	var w []api.Class
	classes, interfaces := []string{"Object", "Fault"}, []string{}
	for _, i := range r.Perm(10)[:r.Intn(11)] {
		c := api.Class{Name: string("ABCDEFGHKM"[i]), Super: "Object", Face: r.Intn(2) == 0}
		if !c.Face {
			c.Super = classes[r.Intn(len(classes))]
		}
		for range min(len(interfaces), r.Intn(4)) {
			if s := interfaces[r.Intn(len(interfaces))]; !slices.Contains(c.Faces, s) {
				c.Faces = append(c.Faces, s)
			}
		}
		if c.Face {
			interfaces = append(interfaces, c.Name)
		} else {
			classes = append(classes, c.Name)
		}
		if r.Intn(40) == 0 {
			c.Super = []string{"", "None", "1", "A", "M"}[r.Intn(5)]
		}
		w = append(w, c)
	}
	r.Shuffle(len(w), func(i, k int) { w[i], w[k] = w[k], w[i] })
	return w
}

// TestUnchanged gives lists with room behind their ends, because an append
// within the package would write there (rule P2).
func TestUnchanged(t *testing.T) {
	room := append(whole(), api.Class{Name: "Kept"})
	w := room[:10]
	for i, c := range w {
		w[i].Faces = slices.Concat(c.Faces, []string{"kept", "kept"})[:len(c.Faces)]
		w[i].Methods = []api.Method{{Name: "m", Type: "()V", Code: []api.Ins{{Op: api.Return}}, Locals: 1}}
	}
	kept := fmt.Sprintf("%#v", room)
	expectPairs(t, w, wholeAbove())
	expectIs(t, w, "A", "None", false, api.ErrNone)
	expectFits(t, w, "LA;", "LNone;", false, api.ErrNone)
	expectFits(t, w, "LA;", "A", false, api.ErrForm)
	if now := fmt.Sprintf("%#v", room); now != kept {
		t.Errorf("the classes %s have been changed to %s", kept, now)
	}
	for _, c := range w {
		if got := c.Faces[len(c.Faces) : len(c.Faces)+2]; !slices.Equal(got, []string{"kept", "kept"}) {
			t.Errorf("what is behind the Faces of %s has been changed to %q", c.Name, got)
		}
	}
	for _, x := range troubles() {
		kept := fmt.Sprintf("%#v", x.w)
		expectIs(t, x.w, "A", "F", false, x.want)
		expectFits(t, x.w, "LA;", "LF;", false, x.want)
		if now := fmt.Sprintf("%#v", x.w); now != kept {
			t.Errorf("the classes %s have been changed to %s", kept, now)
		}
	}
}

func FuzzFits(f *testing.F) {
	for i, s := range noKinds() {
		f.Add(s, noKinds()[i/2])
	}
	for _, k := range append(kinds(names(whole())), "LNone;") {
		f.Add(k, "[LObject;")
		f.Add("[[LC;", k)
	}
	f.Fuzz(func(t *testing.T, from, to string) {
		wanted := wantError(whole(), from, to)
		expectFits(t, whole(), from, to, wanted == nil && wantFits(wholeAbove(), from, to), wanted)
		above, ok := wholeAbove()[from]
		if _, there := wholeAbove()[to]; !ok || !there {
			expectIs(t, whole(), from, to, false, api.ErrNone)
		} else {
			expectIs(t, whole(), from, to, slices.Contains(above, to), nil)
		}
	})
}
