package join_test

import (
	"fmt"
	"maps"
	"math/rand"
	"slices"
	"strings"
	"testing"
	"unsafe"

	"coffeehouse/api"
	"coffeehouse/join"
	"coffeehouse/sub"
	"coffeehouse/world"
)

const longest = "abcdefghijklmnopqrst" // a name of MaxName bytes

// listed returns the classes with the given texts, between which there are
// semicolons: class or face, the Name, the Super (- for an empty one), and the
// Faces.
func listed(s string) []api.Class {
	var w []api.Class
	for _, text := range strings.Split(s, "; ") {
		words := strings.Fields(text)
		w = append(w, api.Class{Face: words[0] == "face", Name: words[1], Super: strings.TrimPrefix(words[2], "-"), Faces: words[3:]})
	}
	return w
}

// whole has as many classes as there may be: D and R extend B, which extends A,
// as C does; E and Q are exceptions. A and E share the interfaces G and F, and C
// and Q share M.
func whole() []api.Class {
	return listed("class D B F; class R B; class B A; class A Object G; class C A M; class E Fault G; class Q Fault M; face F Object; face G Object F; face M Object")
}

// chains returns what each class extends, from texts that say it by hand.
func chains(texts ...string) map[string][]string {
	l := map[string][]string{}
	for _, s := range texts {
		words := strings.Fields(s)
		l[words[0]] = words
	}
	return l
}

func wholeChains() map[string][]string {
	return chains("Object", "Fault Object", "A Object", "B A Object", "C A Object", "D B A Object", "R B A Object",
		"E Fault Object", "Q Fault Object", "F Object", "G Object", "M Object")
}

// names returns the classes that are there.
func names(w []api.Class) []string {
	l := []string{"Object", "Fault"}
	for _, c := range w {
		l = append(l, c.Name)
	}
	return l
}

// arrays returns the type and all arrays of it.
func arrays(item string) []string {
	return []string{item, "[" + item, "[[" + item, "[[[" + item}
}

// kinds returns all kinds with these classes.
func kinds(names []string) []string {
	l := slices.Concat([]string{"N", "T"}, arrays("I"), arrays("J"))
	for _, name := range names {
		l = append(l, arrays("L"+name+";")...)
	}
	return l
}

// isBelow states which kinds are below which, by the classes that each class
// extends. It has no joins in it.
func isBelow(extends map[string][]string, a, b string) bool {
	switch {
	case a == b || b == "T":
		return true
	case a == "N":
		return b != "I" && b != "J"
	case b == "LObject;":
		return a[0] == 'L' || a[0] == '['
	case a[0] == '[' && b[0] == '[':
		return isBelow(extends, a[1:], b[1:])
	case a[0] == 'L' && b[0] == 'L':
		return slices.Contains(extends[a[1:len(a)-1]], b[1:len(b)-1])
	}
	return false
}

// leastAbove searches all kinds for the one that is above a and b and below all
// others that are. A join is nothing else.
func leastAbove(extends map[string][]string, a, b string) string {
	var above []string
	for _, k := range kinds(slices.Collect(maps.Keys(extends))) {
		if isBelow(extends, a, k) && isBelow(extends, b, k) {
			above = append(above, k)
		}
	}
	for _, k := range above {
		if !slices.ContainsFunc(above, func(other string) bool { return !isBelow(extends, k, other) }) {
			return k
		}
	}
	return "none"
}

// show writes a list in few words, even if it is long.
func show(w []api.Class) string {
	s := fmt.Sprintf("%+v", w)
	return s[:min(len(s), 1000)]
}

// expect has the join of a and b and what follows for Below.
func expect(t *testing.T, w []api.Class, a, b, want string) {
	t.Helper()
	if got, err := join.Join(w, a, b); got != want || err != nil {
		t.Fatalf("Join(%s, %q, %q) = %q, %v, want %q, nil", show(w), a, b, got, err, want)
	}
	if got, err := join.Below(w, a, b); got != (want == b) || err != nil {
		t.Fatalf("Below(%s, %q, %q) = %v, %v, want %v, nil", show(w), a, b, got, err, want == b)
	}
}

// expectError compares errors by ==, because rule P3 demands the error itself
// and not one that wraps it.
func expectError(t *testing.T, w []api.Class, a, b string, want error) {
	t.Helper()
	if got, err := join.Join(w, a, b); got != "" || err != want {
		t.Fatalf("Join(%s, %q, %q) = %q, %v, want \"\", %v", show(w), a, b, got, err, want)
	}
	if got, err := join.Below(w, a, b); got || err != want {
		t.Fatalf("Below(%s, %q, %q) = %v, %v, want false, %v", show(w), a, b, got, err, want)
	}
}

// expectPairs has all pairs of kinds.
func expectPairs(t *testing.T, w []api.Class, extends map[string][]string) {
	t.Helper()
	for _, a := range kinds(names(w)) {
		for _, b := range kinds(names(w)) {
			expect(t, w, a, b, leastAbove(extends, a, b))
		}
	}
}

// TestWhole has all pairs, with the classes in several orders.
func TestWhole(t *testing.T) {
	w := whole()
	for range 4 {
		expectPairs(t, w, wholeChains())
		w = slices.Concat(w[3:], w[:3])
	}
	slices.Reverse(w)
	expectPairs(t, w, wholeChains())
}

// TestNoClasses has only the classes that are always there.
func TestNoClasses(t *testing.T) {
	for _, w := range [][]api.Class{nil, {}} {
		expectPairs(t, w, chains("Object", "Fault Object"))
	}
}

// TestEqual has each kind with itself.
func TestEqual(t *testing.T) {
	for _, k := range kinds(names(whole())) {
		expect(t, whole(), k, k, k)
	}
}

// byHand has each sentence of JO1, as two kinds and their join.
func byHand() map[string]string {
	return map[string]string{
		"N and a class":         "N LA; LA;, N LD; LD;, N LObject; LObject;, N LFault; LFault;, N LE; LE;",
		"N and an interface":    "N LF; LF;, N LG; LG;, N LM; LM;",
		"N and an array":        "N [I [I, N [J [J, N [LA; [LA;, N [LF; [LF;, N [LObject; [LObject;, N [[I [[I, N [[[J [[[J, N [[[LD; [[[LD;",
		"N and others":          "N I T, N J T, N T T",
		"one above the other":   "LB; LA; LA;, LD; LB; LB;, LD; LA; LA;, LR; LA; LA;, LE; LFault; LFault;, LQ; LFault; LFault;",
		"Object and a class":    "LObject; LA; LObject;, LObject; LD; LObject;, LObject; LFault; LObject;, LObject; LE; LObject;",
		"common superclass":     "LB; LC; LA;, LD; LR; LB;, LE; LQ; LFault;",
		"at two depths":         "LD; LC; LA;, LR; LC; LA;",
		"only Object in common": "LB; LQ; LObject;, LA; LFault; LObject;, LD; LFault; LObject;, LR; LQ; LObject;",
		"a common interface":    "LA; LE; LObject;, LD; LE; LObject;, LC; LE; LObject;, LC; LQ; LObject;",
		"interface of a class":  "LA; LG; LObject;, LA; LF; LObject;, LD; LF; LObject;, LD; LG; LObject;, LB; LG; LObject;, LC; LM; LObject;, LE; LF; LObject;, LQ; LM; LObject;",
		"class and interface":   "LA; LM; LObject;, LD; LM; LObject;, LFault; LF; LObject;, LFault; LM; LObject;, LObject; LF; LObject;, LObject; LG; LObject;, LQ; LG; LObject;",
		"interfaces":            "LF; LG; LObject;, LF; LM; LObject;, LG; LM; LObject;",
		"arrays of classes":     "[LB; [LC; [LA;, [LD; [LB; [LB;, [LD; [LR; [LB;, [LE; [LQ; [LFault;, [LE; [LFault; [LFault;, [LA; [LE; [LObject;, [LA; [LObject; [LObject;, [[LD; [[LC; [[LA;, [[LA; [[LQ; [[LObject;, [[[LD; [[[LR; [[[LB;, [[[LB; [[[LA; [[[LA;, [[[LD; [[[LFault; [[[LObject;",
		"arrays of interfaces":  "[LA; [LG; [LObject;, [LD; [LM; [LObject;, [LF; [LG; [LObject;, [LF; [LM; [LObject;, [LF; [LObject; [LObject;, [[LF; [[LM; [[LObject;, [[[LG; [[[LF; [[[LObject;, [[[LC; [[[LM; [[[LObject;",
		"arrays of arrays":      "[[I [[J [LObject;, [[I [[LA; [LObject;, [[J [[LF; [LObject;, [[[I [[[J [[LObject;, [[[I [[[LObject; [[LObject;, [[I [[[I [LObject;, [[J [[[I [LObject;, [[I [[[LA; [LObject;, [[LA; [[[LA; [[LObject;, [[LObject; [[[LA; [[LObject;, [[LA; [[[J [[LObject;",
		"class and arrays":      "[LA; [[LA; [LObject;, [LA; [[LB; [LObject;, [LObject; [[LA; [LObject;, [LF; [[LF; [LObject;, [LA; [[I [LObject;, [LObject; [[J [LObject;, [LA; [[[J [LObject;, [LG; [[[LA; [LObject;, [LFault; [[[LFault; [LObject;",
		"arrays of numbers":     "[I [J LObject;, [I [LA; LObject;, [I [LObject; LObject;, [J [LF; LObject;, [J [LFault; LObject;, [I [[I LObject;, [I [[J LObject;, [J [[LA; LObject;, [J [[J LObject;, [I [[[I LObject;, [J [[[I LObject;, [I [[[LObject; LObject;",
		"array and class":       "[I LA; LObject;, [J LFault; LObject;, [LA; LA; LObject;, [LD; LB; LObject;, [LFault; LFault; LObject;, [[I LA; LObject;, [[LE; LFault; LObject;, [[[LA; LA; LObject;, [[[J LD; LObject;",
		"array and Object":      "[I LObject; LObject;, [J LObject; LObject;, [LA; LObject; LObject;, [LF; LObject; LObject;, [LObject; LObject; LObject;, [[I LObject; LObject;, [[LObject; LObject; LObject;, [[[LD; LObject; LObject;",
		"array and interface":   "[I LF; LObject;, [J LM; LObject;, [LF; LF; LObject;, [LA; LG; LObject;, [LG; LF; LObject;, [[I LG; LObject;, [[[LM; LM; LObject;",
		"numbers":               "I J T, I LA; T, I LF; T, I LObject; T, J LFault; T, J LObject; T, I [I T, J [J T, J [I T, I [LObject; T, I [[I T, J [[[J T, I [[[LA; T",
		"T":                     "T I T, T J T, T LA; T, T LF; T, T LObject; T, T LFault; T, T [I T, T [J T, T [LA; T, T [LObject; T, T [[I T, T [[[LF; T",
	}
}

// TestByHand has the kinds of byHand in both orders.
func TestByHand(t *testing.T) {
	for what, s := range byHand() {
		t.Run(what, func(t *testing.T) {
			for _, text := range strings.Split(s, ", ") {
				words := strings.Fields(text)
				expect(t, whole(), words[0], words[1], words[2])
				expect(t, whole(), words[1], words[0], words[2])
			}
		})
	}
}

// TestBelowByHand has pairs of which the first one is below the second one, and
// not the other way round.
func TestBelowByHand(t *testing.T) {
	for _, s := range []string{
		"I T", "J T", "N T", "LA; T", "LF; T", "LObject; T", "[I T", "[[[LA; T", "N LA;", "N LF;", "N LObject;", "N [I", "N [[[LF;",
		"LB; LA;", "LD; LB;", "LD; LA;", "LE; LFault;", "LA; LObject;", "LF; LObject;", "LFault; LObject;", "[I LObject;", "[[[J LObject;", "[LF; LObject;",
		"[LB; [LA;", "[LD; [LObject;", "[LF; [LObject;", "[[[LE; [[[LFault;", "[[I [LObject;", "[[[J [LObject;", "[[[J [[LObject;", "[[LF; [LObject;", "[[LObject; [LObject;",
	} {
		words := strings.Fields(s)
		for k, want := range []bool{true, false} {
			a, b := words[k], words[1-k]
			if got, err := join.Below(whole(), a, b); got != want || err != nil {
				t.Errorf("Below(%s, %s) = %v, %v, want %v, nil", a, b, got, err, want)
			}
		}
	}
	for _, s := range []string{
		"I J", "I N", "J N", "I LA;", "J LObject;", "I [I", "I [LObject;", "LA; LE;", "LB; LC;", "LA; LG;", "LD; LF;", "LG; LF;", "LF; LM;", "LFault; LF;",
		"[I [J", "[I [LObject;", "[J [[J", "[[I [[J", "[[I [[LObject;", "[LA; LA;", "[I LF;", "[LA; [LG;", "[LA; [[LA;", "[LB; [LC;", "[[LF; [LF;", "[[[I [[LA;",
	} {
		words := strings.Fields(s)
		for k := range words {
			a, b := words[k], words[1-k]
			if got, err := join.Below(whole(), a, b); got || err != nil {
				t.Errorf("Below(%s, %s) = %v, %v, want false, nil", a, b, got, err)
			}
		}
	}
}

// table has the joins of all pairs of kinds, by their places in the list.
func table(t *testing.T, w []api.Class, l []string) [][]int {
	t.Helper()
	joins := make([][]int, len(l))
	for i, a := range l {
		for _, b := range l {
			k, err := join.Join(w, a, b)
			at := slices.Index(l, k)
			if err != nil || at < 0 {
				t.Fatalf("Join(%s, %s) = %q, %v", a, b, k, err)
			}
			joins[i] = append(joins[i], at)
		}
	}
	return joins
}

// TestSemilattice has property 5 of the document: the join of a kind and itself
// is this kind, and for the join of several kinds their order does not matter.
func TestSemilattice(t *testing.T) {
	l := kinds(names(whole()))
	joins := table(t, whole(), l)
	for i, a := range l {
		if joins[i][i] != i {
			t.Errorf("the join of %s and itself is %s", a, l[joins[i][i]])
		}
		for k, b := range l {
			if joins[i][k] != joins[k][i] {
				t.Errorf("the join of %s and %s is %s, but the other way round %s", a, b, l[joins[i][k]], l[joins[k][i]])
			}
			for m, c := range l {
				if x, y := joins[joins[i][k]][m], joins[i][joins[k][m]]; x != y {
					t.Errorf("the join of %s, %s and %s is %s or %s", a, b, c, l[x], l[y])
				}
			}
		}
	}
}

// TestFits has what subtypes and joins have to do with each other: both kinds
// fit their join, and what is below a kind fits it. The reverse is wrong only of
// interfaces other than Object.
func TestFits(t *testing.T) {
	interfaces := []string{"LF;", "LG;", "LM;"}
	for _, a := range kinds(names(whole())) {
		for _, b := range kinds(names(whole())) {
			k, err := join.Join(whole(), a, b)
			if err != nil {
				t.Fatal(a, b, err)
			}
			for _, from := range []string{a, b} {
				if ok, err := sub.Fits(whole(), from, k); !ok || err != nil {
					t.Errorf("%s does not fit %s, the join of %s and %s: %v", from, k, a, b, err)
				}
			}
			below, _ := join.Below(whole(), a, b)
			fits, _ := sub.Fits(whole(), a, b)
			if below && !fits || fits && !below && !slices.Contains(interfaces, strings.TrimLeft(b, "[")) {
				t.Errorf("%s is below %s: %v, and fits it: %v", a, b, below, fits)
			}
		}
	}
}

// TestNamesLikeKinds has classes whose names are those of kinds, or parts of
// them, and a name of MaxName bytes.
func TestNamesLikeKinds(t *testing.T) {
	w := listed("class N Object T; face T Object; class I J; class J Object; face L Object; class V Fault L; class object Object; class Objec object; class " + longest + " V T; class LL J")
	expectPairs(t, w, chains("Object", "Fault Object", "N Object", "T Object", "I J Object", "J Object", "L Object", "V Fault Object",
		"object Object", "Objec object Object", longest+" V Fault Object", "LL J Object"))
}

// TestLongChain has classes each of which extends the one before.
func TestLongChain(t *testing.T) {
	w := listed("class A Object; class B A; class C B; class D C; class E D; class F E; class G F; class H G; class K H; class M E")
	extends := chains("Object", "Fault Object", "A Object", "B A Object", "C B A Object", "D C B A Object", "E D C B A Object", "F E D C B A Object",
		"G F E D C B A Object", "H G F E D C B A Object", "K H G F E D C B A Object", "M E D C B A Object")
	expectPairs(t, w, extends)
	expect(t, w, "LK;", "LM;", "LE;")
	expect(t, w, "[[[LM;", "[[[LK;", "[[[LE;")
	slices.Reverse(w)
	expectPairs(t, w, extends)
}

// TestContent has classes with fields and methods, which do not matter.
func TestContent(t *testing.T) {
	w := whole()
	for i := range w {
		w[i].Methods = []api.Method{{Name: "m", Type: "()V", Abstract: true}, {Name: "m", Type: "(I)V", Locals: 2, Code: []api.Ins{{Op: api.Return}}}}
		if !w[i].Face {
			w[i].Fields = []api.Field{{Name: "f", Type: "I"}, {Name: "g", Type: "LNone;"}}
		}
	}
	expectPairs(t, w, wholeChains())
	expectError(t, w, "LNone;", "T", api.ErrNone)
}

// TestDeep has arrays of MaxDeep characters [ with arrays of fewer, and arrays of
// one more, which are none.
func TestDeep(t *testing.T) {
	for item, want := range map[string]string{"I": "[LObject;", "J": "[LObject;", "LObject;": "[[LObject;", "LFault;": "[[LObject;", "LA;": "[[LObject;", "LF;": "[[LObject;"} {
		full := strings.Repeat("[", api.MaxDeep) + item
		expect(t, whole(), full, full, full)
		expect(t, whole(), full, "N", full)
		expect(t, whole(), full, full[1:], want)
		expect(t, whole(), full[1:], full, want)
		for _, other := range []string{"N", "T", "I", "LObject;", full, "[" + full} {
			expectError(t, whole(), "["+full, other, api.ErrForm)
			expectError(t, whole(), other, "["+full, api.ErrForm)
		}
	}
}

// noNames are the names of no class of whole.
func noNames() []string {
	return []string{"None", "N", "T", "I", "J", "L", "V", "a", "f", "AB", "object", "Objec", "Objects", "fault", "Faults", "_", longest}
}

// missing has kinds of classes that whole does not have.
func missing() []string {
	var l []string
	for _, name := range noNames() {
		l = append(l, arrays("L"+name+";")...)
	}
	return l
}

// noKinds are texts that are not kinds.
func noKinds() []string {
	return []string{
		"", " ", "n", "t", "i", "V", "L", ";", "[", "[[", "[[[", "[[[[", "NN", "TT", "II", "IJ", "NT", "I ", " I", "T ", " T", "N ", " N", "N;", "I;", "LN", "LT",
		"[N", "[T", "[[N", "[[[T", "[V", "N[", "T[", "I[", "[I[", "[II", "[ I", "[[[[I", "[[[[J", "[[[[LA;", "[[[[LObject;", "[[[[[I", "[[[[N",
		"A", "LA", "A;", "L;", "L1;", "L A;", "LA ;", "LA; ", " LA;", "LA;;", "LA;I", "LA;T", "LA;LA;", "lA;", "Object", "Fault", "LObject", "Object;", "None",
		"[A", "[LA", "[A;", "[L;", "[L1;", "[LA;;", "[LA;I", "[LObject", "[Object", "[[A", "[[[LA", "L[A;", "LA[;", "L[I;", "LA/B;",
		"()V", "(I)V", "N\x00", "T\x00", "\x00", "\xff", "LA\x00;", "L" + longest + "u;", "[L" + longest + "u;", strings.Repeat("[", 1000) + "I", strings.Repeat("I", 1000),
	}
}

// someKinds has a kind of each sort.
func someKinds() []string {
	return []string{"N", "T", "I", "J", "LObject;", "LFault;", "LA;", "LD;", "LF;", "[I", "[J", "[LA;", "[LF;", "[LObject;", "[[J", "[[[LD;", "[[[I"}
}

// TestForm has texts that are no kinds in a, in b and in both, also with kinds
// of classes that do not exist.
func TestForm(t *testing.T) {
	for _, s := range noKinds() {
		for _, other := range slices.Concat(someKinds(), missing(), noKinds()) {
			expectError(t, whole(), s, other, api.ErrForm)
			expectError(t, whole(), other, s, api.ErrForm)
		}
		expectError(t, nil, s, "T", api.ErrForm)
		expectError(t, nil, "N", s, api.ErrForm)
		expectError(t, nil, s, s, api.ErrForm)
	}
}

// TestNone has kinds of classes that do not exist in a, in b and in both, also
// where the classes do not matter for the join.
func TestNone(t *testing.T) {
	for _, s := range missing() {
		for _, other := range slices.Concat(someKinds(), missing()) {
			expectError(t, whole(), s, other, api.ErrNone)
			expectError(t, whole(), other, s, api.ErrNone)
		}
	}
	for _, name := range names(whole())[2:] {
		for _, k := range arrays("L" + name + ";") {
			for _, other := range []string{"N", "T", "I", "[J", "LObject;", "[[[LFault;", k} {
				expectError(t, nil, k, other, api.ErrNone)
				expectError(t, nil, other, k, api.ErrNone)
			}
		}
	}
}

// trouble is a list with an error of world.Check.
type trouble struct {
	w    []api.Class
	want error
}

// troubles has each error of world.Check. In each list there are still classes A
// and F, which the tests ask for.
func troubles() []trouble {
	method := func(m api.Method) []api.Method {
		m.Name, m.Type = "m", "()V"
		return []api.Method{m}
	}
	l := []trouble{{append(whole(), listed("class X Object")...), api.ErrFull}}
	for _, x := range []struct {
		c    api.Class
		want error
	}{
		{api.Class{Super: "Object"}, api.ErrForm},
		{api.Class{Name: "1", Super: "Object"}, api.ErrForm},
		{api.Class{Name: "X", Super: "LA;"}, api.ErrForm},
		{api.Class{Name: "X", Super: "Object", Faces: []string{"F", "F"}}, api.ErrTwice},
		{api.Class{Name: "X", Super: "Object", Fields: make([]api.Field, 9)}, api.ErrFull},
		{api.Class{Name: "X", Super: "Object", Fields: make([]api.Field, 1)}, api.ErrForm},
		{api.Class{Name: "X", Super: "Object", Methods: method(api.Method{Locals: 9})}, api.ErrRange},
		{api.Class{Name: "X", Super: "Object", Methods: method(api.Method{Abstract: true, Static: true})}, api.ErrShape},
		{api.Class{Name: "X"}, api.ErrForm},
		{api.Class{Name: "X", Super: "None"}, api.ErrNone},
		{api.Class{Name: "X", Super: "Object", Faces: []string{"None"}}, api.ErrNone},
		{api.Class{Name: "X", Super: "F"}, api.ErrType},
		{api.Class{Name: "X", Super: "Object", Faces: []string{"A"}}, api.ErrType},
		{api.Class{Name: "X", Super: "Fault", Face: true}, api.ErrType},
		{api.Class{Name: "X", Super: "X"}, api.ErrRound},
		{api.Class{Name: "X", Super: "Object", Faces: []string{"X"}, Face: true}, api.ErrRound},
		{api.Class{Name: "Object", Super: "Object"}, api.ErrTwice},
		{api.Class{Name: "Fault", Super: "Object"}, api.ErrTwice},
		{api.Class{Name: "A", Super: "Object"}, api.ErrTwice},
	} {
		w := listed("class A Object F; class B A; face F Object")
		l = append(l, trouble{slices.Insert(slices.Clone(w), 0, x.c), x.want}, trouble{append(w, x.c), x.want})
	}
	return l
}

// TestWorldErrors has each error of world.Check alone and together with each
// one that comes later, in a, in b and in both.
func TestWorldErrors(t *testing.T) {
	found := map[error]bool{}
	asked := slices.Concat(someKinds(), []string{"LX;", "[LX;", "LNone;", "[LNone;", "[[[LNone;", "", "V", "A", "II", "[N", "[T", "[[[[I"})
	for _, x := range troubles() {
		if err := world.Check(x.w); err != x.want {
			t.Fatalf("world.Check(%s) = %v, want %v", show(x.w), err, x.want)
		}
		found[x.want] = true
		for _, a := range asked {
			for _, b := range asked {
				expectError(t, x.w, a, b, x.want)
			}
		}
	}
	for _, want := range []error{api.ErrForm, api.ErrRange, api.ErrNone, api.ErrFull, api.ErrTwice, api.ErrRound, api.ErrType, api.ErrShape} {
		if !found[want] {
			t.Errorf("no list gives %v", want)
		}
	}
}

// expectLike has the error of sub.Fits or, without one, the join.
func expectLike(t *testing.T, w []api.Class, extends map[string][]string, a, b string) {
	t.Helper()
	if _, err := sub.Fits(w, a, b); err != nil {
		expectError(t, w, a, b, err)
		return
	}
	expect(t, w, a, b, leastAbove(extends, a, b))
}

// TestManyLists has lists from a fixed seed, most of which are valid, one after
// another, so that nothing that is kept from an earlier one goes unnoticed.
func TestManyLists(t *testing.T) {
	r := rand.New(rand.NewSource(10))
	one := func(l []string) string { return l[r.Intn(len(l))] }
	valid := 0
	for range 1000 {
		w, extends := some(r)
		kept := fmt.Sprintf("%#v", w)
		if world.Check(w) == nil {
			valid++
		}
		for range 30 {
			a, b := one(kinds(append(names(w), "None"))), one(kinds(append(names(w), "None")))
			switch r.Intn(20) {
			case 0:
				a = one(noKinds())
			case 1:
				b = one(noKinds())
			}
			expectLike(t, w, extends, a, b)
		}
		if now := fmt.Sprintf("%#v", w); now != kept {
			t.Fatalf("the list %s has been changed to %s", kept, now)
		}
	}
	if valid < 500 || valid > 980 {
		t.Errorf("%d of 1000 lists are valid", valid)
	}
}

// some has classes that extend those before them, until the list is shuffled,
// and what each of them extends. Few names serve, so that the same ones have
// other places in other lists.
func some(r *rand.Rand) ([]api.Class, map[string][]string) {
	var w []api.Class
	extends := chains("Object", "Fault Object")
	classes, interfaces := []string{"Object", "Fault"}, []string{}
	for _, i := range r.Perm(10)[:r.Intn(11)] {
		c := api.Class{Name: string("ABCDEFGHKM"[i]), Super: "Object", Face: r.Intn(4) == 0}
		for _, s := range interfaces {
			if r.Intn(3) == 0 {
				c.Faces = append(c.Faces, s)
			}
		}
		if c.Face {
			interfaces = append(interfaces, c.Name)
		} else {
			c.Super = classes[r.Intn(len(classes))]
			classes = append(classes, c.Name)
		}
		extends[c.Name] = slices.Concat([]string{c.Name}, extends[c.Super])
		if r.Intn(40) == 0 {
			c.Super = []string{"", "None", "1", c.Name}[r.Intn(4)]
		}
		w = append(w, c)
	}
	r.Shuffle(len(w), func(i, k int) { w[i], w[k] = w[k], w[i] })
	return w, extends
}

// TestUnchanged gives lists with room behind their ends, because an append
// within the package would write there (rule P2).
func TestUnchanged(t *testing.T) {
	room := append(whole(), api.Class{Name: "Kept"})
	w := room[:10]
	for i, c := range w {
		w[i].Faces = slices.Concat(c.Faces, []string{"kept", "kept"})[:len(c.Faces)]
		w[i].Methods = []api.Method{{Name: "m", Type: "()V", Code: []api.Ins{{Op: api.Return}}, Locals: 1}}
	}
	kept := fmt.Sprintf("%#v", room)
	expectPairs(t, w, wholeChains())
	expectError(t, w, "LA;", "LNone;", api.ErrNone)
	expectError(t, w, "A", "LA;", api.ErrForm)
	if now := fmt.Sprintf("%#v", room); now != kept {
		t.Errorf("the classes %s have been changed to %s", kept, now)
	}
	for _, c := range w {
		if got := c.Faces[len(c.Faces) : len(c.Faces)+2]; !slices.Equal(got, []string{"kept", "kept"}) {
			t.Errorf("what is behind the Faces of %s has been changed to %q", c.Name, got)
		}
	}
	for _, x := range troubles() {
		kept := fmt.Sprintf("%#v", x.w)
		expectError(t, x.w, "LA;", "LF;", x.want)
		if now := fmt.Sprintf("%#v", x.w); now != kept {
			t.Errorf("the classes %s have been changed to %s", kept, now)
		}
	}
}

// TestOwnStrings has results that share no memory with what was passed (rule
// P2), which shows only in the addresses of strings.
func TestOwnStrings(t *testing.T) {
	for _, a := range someKinds() {
		for _, b := range someKinds() {
			x, y := strings.Clone(a), strings.Clone(b)
			k, err := join.Join(whole(), x, y)
			if err != nil {
				t.Fatal(a, b, err)
			}
			for _, s := range []string{x, y} {
				from, at := uintptr(unsafe.Pointer(unsafe.StringData(s))), uintptr(unsafe.Pointer(unsafe.StringData(k)))
				if at >= from && at < from+uintptr(len(s)) {
					t.Errorf("Join(%s, %s) = %s shares memory with %s", a, b, k, s)
				}
			}
		}
	}
}

func FuzzJoin(f *testing.F) {
	for i, s := range noKinds() {
		f.Add(s, noKinds()[i/2])
	}
	for _, k := range append(kinds(names(whole())), "LNone;") {
		f.Add(k, "[LA;")
		f.Add("[[LC;", k)
	}
	f.Fuzz(func(t *testing.T, a, b string) {
		expectLike(t, whole(), wholeChains(), a, b)
		if _, err := sub.Fits(whole(), a, b); err == nil {
			expect(t, whole(), b, a, leastAbove(wholeChains(), a, b))
		}
	})
}
