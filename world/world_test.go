package world_test

import (
	"fmt"
	"math/rand"
	"slices"
	"strings"
	"testing"
	"unsafe"

	"coffeehouse/api"
	"coffeehouse/class"
	"coffeehouse/world"
)

const longest = "abcdefghijklmnopqrst" // a name of MaxName bytes

// listed returns the classes with the given texts, between which there are
// semicolons: class or face, the Name, the Super (- for an empty one), and the
// Faces.
func listed(s string) []api.Class {
	var w []api.Class
	for _, text := range strings.Split(s, "; ") {
		words := strings.Fields(text)
		w = append(w, api.Class{Face: words[0] == "face", Name: words[1], Super: strings.TrimPrefix(words[2], "-"), Faces: words[3:]})
	}
	return w
}

// chain has n classes, each of which extends the one before.
func chain(n int) []api.Class {
	var w []api.Class
	super := "Object"
	for i := range n {
		w = append(w, api.Class{Name: fmt.Sprint("n", i), Super: super})
		super = w[i].Name
	}
	return w
}

// faces has n interfaces, each of which has all before as Faces, but no more
// than there may be.
func faces(n int) []api.Class {
	var w []api.Class
	var before []string
	for i := range n {
		w = append(w, api.Class{Name: fmt.Sprint("f", i), Super: "Object", Face: true, Faces: slices.Clone(before[max(0, i-8):])})
		before = append(before, w[i].Name)
	}
	return w
}

// whole has all that a hierarchy may have: a class with several interfaces, one
// below it with others, an interface that is reached in several ways, and an
// exception.
func whole() []api.Class {
	return listed("class B A H; class A Object K F; class E Fault F; face F Object; face G Object F; face H Object F; face K Object G H F")
}

// trouble is an error, and where the chapter names it: the numbers of the
// clause and of the class, and within them.
type trouble struct {
	place []int
	err   error
}

type troubles []trouble

func (l *troubles) add(wrong bool, err error, place ...int) {
	if wrong {
		*l = append(*l, trouble{place, err})
	}
}

// wantCheck states the errors of WO1: all that is wrong, and the error that
// comes first.
func wantCheck(w []api.Class) error {
	var l troubles
	l.add(len(w) > 10, api.ErrFull, 1)
	for i, c := range w {
		err := class.Check(c)
		l.add(err != nil, err, 2, i, 1)
		l.add(c.Name == "Object" || c.Name == "Fault", api.ErrTwice, 2, i, 2)
		for _, e := range w[:i] {
			l.add(e.Name == c.Name, api.ErrTwice, 2, i, 2)
		}
		l.add(c.Super == "", api.ErrForm, 3, i, 1)
		l.add(!there(w, c.Super, false) && !there(w, c.Super, true), api.ErrNone, 3, i, 2)
		l.add(there(w, c.Super, true) || c.Face && c.Super != "Object", api.ErrType, 3, i, 3)
		for _, s := range c.Faces {
			l.add(!there(w, s, false) && !there(w, s, true), api.ErrNone, 3, i, 2)
			l.add(!there(w, s, true), api.ErrType, 3, i, 3)
		}
		l.add(slices.Contains(beyond(w, next(given(w), []string{c.Name})), c.Name), api.ErrRound, 4, i)
	}
	if len(l) == 0 {
		return nil
	}
	return slices.MinFunc(l, func(a, b trouble) int { return slices.Compare(a.place, b.place) }).err
}

// given adds the classes that are always there.
func given(w []api.Class) []api.Class {
	return append(slices.Clip(w), api.Class{Name: "Fault", Super: "Object"}, api.Class{Name: "Object"})
}

func there(w []api.Class, name string, face bool) bool {
	return slices.ContainsFunc(given(w), func(c api.Class) bool { return c.Name == name && c.Face == face })
}

// next returns what the classes with the names extend and have as Faces.
func next(w []api.Class, names []string) []string {
	var l []string
	for _, c := range w {
		if slices.Contains(names, c.Name) {
			l = append(append(l, c.Super), c.Faces...)
		}
	}
	slices.Sort(l)
	return slices.Compact(l)
}

// beyond returns the names and all that is reached from them, by more steps
// than there are classes.
func beyond(w []api.Class, names []string) []string {
	var l []string
	w = given(w)
	for range len(w) + 1 {
		l = append(l, names...)
		names = next(w, names)
	}
	slices.Sort(l)
	return slices.DeleteFunc(slices.Compact(l), func(s string) bool { return s == "" })
}

// wantSupers states what WO2 says of Supers of a class that is there.
func wantSupers(w []api.Class, name string) []string {
	l := []string{name}
	for name != "Object" {
		for _, c := range given(w) {
			if c.Name == name {
				name = c.Super
				break
			}
		}
		l = append(l, name)
	}
	return l
}

func wantAll(w []api.Class, name string) []string { return beyond(w, []string{name}) }

// noClasses are in none of the lists of the tests.
func noClasses() []string {
	return []string{"", "None", "object", "OBJECT", "Objec", "Object ", "Objects", "fault", "Fault\x00", "LA;", "[A", "1", "-", longest + "u", "\xff"}
}

// show writes a list in few words, even if it is long.
func show(w []api.Class) string {
	s := fmt.Sprintf("%+v", w)
	return s[:min(len(s), 1000)]
}

// expect asks for all that the chapter says of a list. It compares errors by ==,
// because rule P3 demands the error itself and not one that wraps it, and with
// what wantCheck says as well, so that the results that the tests give by hand
// confirm it. The list stays as it is (P2).
func expect(t *testing.T, w []api.Class, want error) {
	t.Helper()
	kept := fmt.Sprintf("%#v", w)
	if err := world.Check(w); err != want {
		t.Fatalf("Check(%s) = %v, want %v", show(w), err, want)
	}
	if stated := wantCheck(w); stated != want {
		t.Fatalf("wantCheck(%s) = %v, want %v", show(w), stated, want)
	}
	names := []string{"Object", "Fault"}
	for _, c := range w {
		names = append(names, c.Name)
	}
	if want != nil {
		expectError(t, w, append(names, "", "None"), want)
	} else {
		expectResults(t, w, names)
		expectError(t, w, noClasses(), api.ErrNone)
	}
	if now := fmt.Sprintf("%#v", w); now != kept {
		t.Fatalf("the list %s has been changed to %s", kept, now)
	}
}

func expectError(t *testing.T, w []api.Class, names []string, want error) {
	t.Helper()
	for _, name := range names {
		if got, err := world.Supers(w, name); err != want || len(got) != 0 {
			t.Fatalf("Supers(%s, %q) = %q, %v, want %v alone", show(w), name, got, err, want)
		}
		if got, err := world.All(w, name); err != want || len(got) != 0 {
			t.Fatalf("All(%s, %q) = %q, %v, want %v alone", show(w), name, got, err, want)
		}
	}
}

func expectResults(t *testing.T, w []api.Class, names []string) {
	t.Helper()
	for _, name := range names {
		expectLists(t, w, name, wantSupers(w, name), wantAll(w, name))
	}
}

func expectLists(t *testing.T, w []api.Class, name string, supers, all []string) {
	t.Helper()
	if got, err := world.Supers(w, name); err != nil || !slices.Equal(got, supers) {
		t.Fatalf("Supers(%s, %q) = %q, %v, want %q, nil", show(w), name, got, err, supers)
	}
	if got, err := world.All(w, name); err != nil || !slices.Equal(got, all) {
		t.Fatalf("All(%s, %q) = %q, %v, want %q, nil", show(w), name, got, err, all)
	}
}

// expectEach has results that are given by hand: for each name those of Supers
// and of All.
func expectEach(t *testing.T, w []api.Class, results map[string][2]string) {
	t.Helper()
	expect(t, w, nil)
	for name, r := range results {
		expectLists(t, w, name, strings.Fields(r[0]), strings.Fields(r[1]))
	}
}

// inEachOrder calls f with w in every order.
func inEachOrder(w []api.Class, f func(w []api.Class)) {
	var fill func(n int)
	fill = func(n int) {
		if n == len(w) {
			f(w)
			return
		}
		for i := n; i < len(w); i++ {
			w[n], w[i] = w[i], w[n]
			fill(n + 1)
			w[n], w[i] = w[i], w[n]
		}
	}
	fill(0)
}

// TestAlwaysThere has Object and Fault with lists that do not, and that do,
// mention them.
func TestAlwaysThere(t *testing.T) {
	for _, w := range [][]api.Class{nil, {}, listed("class A Object"), listed("face F Object"), listed("class E Fault; class A E"), whole(), chain(10), faces(10)} {
		expectEach(t, w, map[string][2]string{
			"Object": {"Object", "Object"},
			"Fault":  {"Fault Object", "Fault Object"},
		})
	}
}

// TestNumber has the limit of the number of classes, and more.
func TestNumber(t *testing.T) {
	for n := range 14 {
		var want error
		if n > 10 {
			want = api.ErrFull
		}
		expect(t, chain(n), want)
		expect(t, faces(n), want)
		for k := range n {
			expect(t, slices.Concat(chain(k), faces(n-k)), want)
		}
		if n > 10 {
			w := chain(n)
			w[n-1].Super = ""
			expect(t, w, want)
		}
	}
	for _, n := range []int{11, 100, 255, 256, 257, 266} {
		for _, w := range [][]api.Class{make([]api.Class, n), chain(n)} {
			if err := world.Check(w); err != api.ErrFull {
				t.Errorf("Check of %d classes = %v, want ErrFull", n, err)
			}
			expectError(t, w, []string{"n0", "Object", "None"}, api.ErrFull)
		}
	}
}

func TestChain(t *testing.T) {
	expectEach(t, chain(10), map[string][2]string{
		"n0": {"n0 Object", "Object n0"},
		"n1": {"n1 n0 Object", "Object n0 n1"},
		"n9": {"n9 n8 n7 n6 n5 n4 n3 n2 n1 n0 Object", "Object n0 n1 n2 n3 n4 n5 n6 n7 n8 n9"},
	})
	expectEach(t, listed("class E Fault; class D E; class A Object"), map[string][2]string{
		"A": {"A Object", "A Object"},
		"E": {"E Fault Object", "E Fault Object"},
		"D": {"D E Fault Object", "D E Fault Object"},
	})
}

// TestFaces has interfaces that are reached through interfaces, through the
// classes that are extended, through both, and in several ways.
func TestFaces(t *testing.T) {
	expectEach(t, faces(10), map[string][2]string{
		"f0": {"f0 Object", "Object f0"},
		"f1": {"f1 Object", "Object f0 f1"},
		"f9": {"f9 Object", "Object f0 f1 f2 f3 f4 f5 f6 f7 f8 f9"},
	})
	expectEach(t, listed("face F Object; class A Object F; class B A; class C B; class D Object"), map[string][2]string{
		"F": {"F Object", "F Object"},
		"A": {"A Object", "A F Object"},
		"B": {"B A Object", "A B F Object"},
		"C": {"C B A Object", "A B C F Object"},
		"D": {"D Object", "D Object"},
	})
	expectEach(t, listed("class A Object G; face G Object H; face H Object K; face K Object"), map[string][2]string{
		"A": {"A Object", "A G H K Object"},
		"G": {"G Object", "G H K Object"},
		"H": {"H Object", "H K Object"},
		"K": {"K Object", "K Object"},
	})
	expectEach(t, listed("class E Fault F G; face F Object G; face G Object; class D E G"), map[string][2]string{
		"E": {"E Fault Object", "E F Fault G Object"},
		"D": {"D E Fault Object", "D E F Fault G Object"},
	})
}

// wholeResults has those of whole.
func wholeResults() map[string][2]string {
	return map[string][2]string{
		"A":      {"A Object", "A F G H K Object"},
		"B":      {"B A Object", "A B F G H K Object"},
		"E":      {"E Fault Object", "E F Fault Object"},
		"F":      {"F Object", "F Object"},
		"G":      {"G Object", "F G Object"},
		"H":      {"H Object", "F H Object"},
		"K":      {"K Object", "F G H K Object"},
		"Object": {"Object", "Object"},
		"Fault":  {"Fault Object", "Fault Object"},
	}
}

func TestEveryOrder(t *testing.T) {
	inEachOrder(whole(), func(w []api.Class) { expectEach(t, w, wholeResults()) })
	// The order of Faces does not matter either.
	for _, s := range []string{"F G H", "F H G", "G F H", "G H F", "H F G", "H G F"} {
		w := whole()
		w[6].Faces = strings.Fields(s)
		expectEach(t, w, wholeResults())
	}
}

// TestSorted has names in which letters of both cases, digits and _ differ, and
// names that begin with others.
func TestSorted(t *testing.T) {
	w := listed("class b Object z; class B b; class _ B; class a1 _; class aB a1 Z; class a_ aB; class a a_; face z Object; face Z Object Pa; face Pa Object")
	expectEach(t, w, map[string][2]string{
		"b": {"b Object", "Object b z"},
		"_": {"_ B b Object", "B Object _ b z"},
		"a": {"a a_ aB a1 _ B b Object", "B Object Pa Z _ a a1 aB a_ b z"},
		"Z": {"Z Object", "Object Pa Z"},
	})
	w = listed("class " + longest + " Object aa ab a A; face a Object; face ab Object; face aa Object; face A Object")
	expectEach(t, w, map[string][2]string{longest: {longest + " Object", "A Object a aa ab " + longest}})
}

// TestContent has classes with fields and methods, which do not matter.
func TestContent(t *testing.T) {
	w := whole()
	for i := range w {
		w[i].Methods = []api.Method{{Name: "m", Type: "()V", Abstract: true}, {Name: "m", Type: "(I)V", Locals: 2, Code: []api.Ins{{Op: api.Return}}}}
		if !w[i].Face {
			w[i].Fields = []api.Field{{Name: "f", Type: "I"}, {Name: "g", Type: "LNone;"}}
		}
	}
	expectEach(t, w, wholeResults())
}

// invalid has classes that are wrong by themselves: one for each error of
// class.Check.
func invalid() []api.Class {
	abstract := api.Method{Name: "m", Type: "()V", Abstract: true}
	static := abstract
	static.Static = true
	unlimited := abstract
	unlimited.Locals = 9
	return []api.Class{
		{Name: "X", Super: "Object", Fields: []api.Field{{Name: "f", Type: "V"}}},
		{Name: "X", Super: "Object", Methods: []api.Method{unlimited}},
		{Name: "X", Super: "Object", Methods: []api.Method{abstract, abstract}},
		{Name: "X", Super: "Object", Fields: make([]api.Field, 9)},
		{Name: "X", Super: "Object", Methods: []api.Method{static}},
		{Name: "X", Super: "Object", Face: true, Fields: []api.Field{{Name: "f", Type: "I"}}},
		{},
		{Name: "1", Super: "Object"},
		{Name: longest + "u", Super: "Object"},
		{Name: "X", Super: "1"},
		{Name: "X", Super: "Object", Faces: []string{"F", ""}},
		{Name: "X", Super: "Object", Faces: []string{"F", "F"}},
	}
}

// TestClassErrors has an invalid class at each place, alone and before and
// behind other errors.
func TestClassErrors(t *testing.T) {
	found := map[error]bool{}
	for _, c := range invalid() {
		want := class.Check(c)
		found[want] = true
		expect(t, []api.Class{c}, want)
		for i := range whole() {
			w := slices.Insert(whole(), i, c)
			expect(t, w, want)
			w[i+1].Name = "Object"
			expect(t, w, want)
			w[i+1] = api.Class{}
			expect(t, w, want)
			if i > 0 {
				w[0].Super = ""
				expect(t, w, want)
				w[0].Name = "Fault"
				expect(t, w, api.ErrTwice)
				w[0].Name = "1"
				expect(t, w, api.ErrForm)
			}
			w = slices.Insert(whole(), i, c)
			w[i].Name = "Object"
			if err := class.Check(w[i]); err != nil {
				expect(t, w, err)
			}
		}
		for _, other := range invalid() {
			expect(t, append(whole(), c, other), want)
			expect(t, append(chain(9), c, other), api.ErrFull)
		}
	}
	for _, want := range []error{api.ErrForm, api.ErrRange, api.ErrFull, api.ErrTwice, api.ErrShape} {
		if !found[want] {
			t.Errorf("no invalid class gives %v", want)
		}
	}
}

func TestTwice(t *testing.T) {
	for i := range whole() {
		for _, s := range []string{"Object", "Fault"} {
			w := whole()
			w[i].Name = s
			expect(t, w, api.ErrTwice)
		}
		for k := range i {
			w := whole()
			w[i].Name = w[k].Name
			expect(t, w, api.ErrTwice)
			w[i] = w[k]
			expect(t, w, api.ErrTwice)
		}
	}
	for _, s := range []string{
		"class Object Object", "class Fault Object", "class Object -", "face Object Object", "face Fault Object",
		"class A Object; class A Object", "class A Object; face A Object", "class A B; class B Object; class A B",
	} {
		expect(t, listed(s), api.ErrTwice)
	}
	expect(t, listed("class oBJECT Object; class OBJEct Object; class faulT Fault; class Faul_ Fault; class FAULT Fault"), nil)
}

// at returns whole with one class changed.
func at(i int, change func(c *api.Class)) []api.Class {
	w := whole()
	change(&w[i])
	return w
}

func TestNoSuper(t *testing.T) {
	for i := range whole() {
		expect(t, at(i, func(c *api.Class) { c.Super = "" }), api.ErrForm)
	}
	expect(t, listed("class A -"), api.ErrForm)
	expect(t, listed("face A -"), api.ErrForm)
	expect(t, listed("class A - None"), api.ErrForm)
	expect(t, listed("class A - A"), api.ErrForm)
}

// TestNone has names that are those of no class, at each place of each class.
func TestNone(t *testing.T) {
	for i := range whole() {
		for _, s := range []string{"None", "object", "fault", "Faul", "Objects", "a", "f", "AB", longest} {
			expect(t, at(i, func(c *api.Class) { c.Super = s }), api.ErrNone)
			for k := range whole()[i].Faces {
				expect(t, at(i, func(c *api.Class) { c.Faces[k] = s }), api.ErrNone)
				expect(t, at(i, func(c *api.Class) { c.Faces = slices.Insert(c.Faces, k, s) }), api.ErrNone)
			}
			expect(t, at(i, func(c *api.Class) { c.Faces = append(c.Faces, s) }), api.ErrNone)
		}
	}
	expect(t, listed("class A None"), api.ErrNone)
	expect(t, listed("class A Object None"), api.ErrNone)
	expect(t, listed("face A None"), api.ErrNone)
}

// TestType has classes as Faces and interfaces as Super, at each place of each
// class.
func TestType(t *testing.T) {
	for i, c := range whole() {
		for _, s := range []string{"F", "G", "H", "K"} {
			expect(t, at(i, func(c *api.Class) { c.Super = s }), api.ErrType)
		}
		if c.Face {
			for _, s := range []string{"A", "B", "E", "Fault"} {
				expect(t, at(i, func(c *api.Class) { c.Super = s }), api.ErrType)
			}
		}
		for _, s := range []string{"A", "B", "E", "Object", "Fault"} {
			for k := range c.Faces {
				expect(t, at(i, func(c *api.Class) { c.Faces[k] = s }), api.ErrType)
				expect(t, at(i, func(c *api.Class) { c.Faces = slices.Insert(c.Faces, k, s) }), api.ErrType)
			}
			expect(t, at(i, func(c *api.Class) { c.Faces = append(c.Faces, s) }), api.ErrType)
		}
	}
	for _, s := range []string{
		"face F Fault", "face F F", "class A Object Object", "class A Object Fault", "class A Object A", "face F Object Object",
		"face F Object; class A F", "class A F; face F Object", "face F G; face G Object", "face F A; class A Object",
		"class A Object B; class B Object", "face F Object A; class A Object F", "class A F F; face F Object",
	} {
		expect(t, listed(s), api.ErrType)
	}
}

// TestErrorsOfOneClass has a class that is wrong in several ways, before and
// behind others.
func TestErrorsOfOneClass(t *testing.T) {
	for s, want := range map[string]error{
		"class X None":        api.ErrNone,
		"class X F":           api.ErrType,
		"class X Object A":    api.ErrType,
		"class X - None":      api.ErrForm,
		"class X - A":         api.ErrForm,
		"face X -":            api.ErrForm,
		"class X None A":      api.ErrNone,
		"class X F None":      api.ErrNone,
		"class X F F None":    api.ErrNone,
		"class X F A None":    api.ErrNone,
		"class X A B None":    api.ErrNone,
		"class X A None B":    api.ErrNone,
		"class X A F B":       api.ErrType,
		"class X A F X":       api.ErrType,
		"class X X None":      api.ErrNone,
		"class X X A":         api.ErrType,
		"class X X":           api.ErrRound,
		"class X X F":         api.ErrRound,
		"face X Fault None":   api.ErrNone,
		"face X F None":       api.ErrNone,
		"face X X None":       api.ErrNone,
		"face X X X":          api.ErrType,
		"face X Object X A":   api.ErrType,
		"face X Object F X":   api.ErrRound,
		"face X Object F":     nil,
		"class X A F":         nil,
		"class X Fault F G K": nil,
	} {
		for i := range len(whole()) + 1 {
			expect(t, slices.Insert(whole(), i, listed(s)...), want)
		}
	}
}

// TestRound has cycles of each number of classes, in every order or beginning
// anywhere.
func TestRound(t *testing.T) {
	for _, s := range []string{
		"class A A", "class A B; class B A", "class A B; class B C; class C A",
		"face F Object F", "face F Object G; face G Object F", "face F Object G; face G Object H; face H Object F",
		"face F Object G H K; face G Object; face H Object; face K Object G F",
		"face F Object G H; face G Object F H; face H Object F G",
		"class A B; class B B", "class A B; class B C; class C B", "class D A F; class A B F; class B A; face F Object",
		"class A Object F; face F Object F", "class A Object F; face F Object G; face G Object F", "face F Object G; face G Object H; face H Object G",
		"class A Object; class B A F; face F Object G; face G Object H; face H Object F", "class A B; class B C; class C D; class D Object; class E E",
	} {
		inEachOrder(listed(s), func(w []api.Class) { expect(t, w, api.ErrRound) })
	}
	for n := 1; n <= 10; n++ {
		for i := range n {
			w := chain(n)
			w[0].Super = w[n-1].Name
			expect(t, slices.Concat(w[i:], w[:i]), api.ErrRound)
			w = chain(n)
			w[i].Super = w[n-1].Name
			expect(t, w, api.ErrRound)
			w = faces(n)
			w[i].Faces = []string{w[n-1].Name}
			expect(t, w, api.ErrRound)
		}
	}
	full := faces(9)
	for i := range full {
		full[i].Faces = nil
		for k := range full {
			if k != i {
				full[i].Faces = append(full[i].Faces, full[k].Name)
			}
		}
	}
	expect(t, full, api.ErrRound)
}

// flaw makes a part of a list wrong.
type flaw struct {
	put  func(w []api.Class) []api.Class
	want error
}

// of changes one class.
func of(i int, want error, change func(c *api.Class)) flaw {
	return flaw{func(w []api.Class) []api.Class {
		change(&w[i])
		return w
	}, want}
}

// flaws has each error in the order of WO1, at the first, a middle and the last
// class of a list.
func flaws(w []api.Class) []flaw {
	l := []flaw{{func(w []api.Class) []api.Class { return append(w, chain(10)...) }, api.ErrFull}}
	places := []int{0, len(w) / 2, len(w) - 1}
	for _, i := range places {
		l = append(l,
			of(i, api.ErrShape, func(c *api.Class) { c.Methods = []api.Method{{Name: "m", Type: "()V", Abstract: true, Static: true}} }),
			of(i, api.ErrTwice, func(c *api.Class) { c.Name = "Fault" }),
			of(i, api.ErrTwice, func(c *api.Class) { c.Name = "Object" }),
		)
		if i > 0 {
			first := w[0].Name
			l = append(l, of(i, api.ErrTwice, func(c *api.Class) { c.Name = first }))
		}
	}
	for _, i := range places {
		l = append(l, flawsOfParents(i, w[i].Face)...)
	}
	for _, i := range places {
		own := w[i].Name
		if w[i].Face {
			l = append(l, of(i, api.ErrRound, func(c *api.Class) { c.Faces = append(c.Faces, own) }))
		} else {
			l = append(l, of(i, api.ErrRound, func(c *api.Class) { c.Super = own }))
		}
	}
	return l
}

func flawsOfParents(i int, face bool) []flaw {
	l := []flaw{
		of(i, api.ErrForm, func(c *api.Class) { c.Super = "" }),
		of(i, api.ErrNone, func(c *api.Class) { c.Super = "None" }),
		of(i, api.ErrNone, func(c *api.Class) { c.Faces = append([]string{"none"}, c.Faces...) }),
		of(i, api.ErrNone, func(c *api.Class) { c.Faces = append(c.Faces, "None") }),
		of(i, api.ErrType, func(c *api.Class) { c.Super = "F" }),
		of(i, api.ErrType, func(c *api.Class) { c.Faces = append([]string{"Fault"}, c.Faces...) }),
		of(i, api.ErrType, func(c *api.Class) { c.Faces = append(c.Faces, "Object") }),
	}
	if face {
		l = append(l, of(i, api.ErrType, func(c *api.Class) { c.Super = "Fault" }))
	}
	return l
}

// flawed puts the first flaw last, so that no other one undoes it.
func flawed(w []api.Class, l ...flaw) []api.Class {
	for i, c := range w {
		w[i].Faces = slices.Clone(c.Faces)
	}
	for _, f := range slices.Backward(l) {
		w = f.put(w)
	}
	return w
}

// TestOrder has each error alone, with each one that comes later, and with all
// of those, and each class at the first, the middle and the last place.
func TestOrder(t *testing.T) {
	for i := range whole() {
		turned := func() []api.Class { return slices.Concat(whole()[i:], whole()[:i]) }
		l := flaws(turned())
		for k, f := range l {
			expect(t, flawed(turned(), f), f.want)
			for _, later := range l[k+1:] {
				expect(t, flawed(turned(), f, later), f.want)
			}
			expect(t, flawed(turned(), l[k:]...), f.want)
		}
	}
}

// TestPairs has all lists of two classes with few names.
func TestPairs(t *testing.T) {
	var l []api.Class
	for _, name := range []string{"A", "B", "Fault"} {
		for _, super := range []string{"", "A", "B", "Object", "C"} {
			for _, s := range []string{"", "A", "B", "A B", "A C"} {
				l = append(l, api.Class{Name: name, Super: super, Faces: strings.Fields(s)})
				l = append(l, api.Class{Name: name, Super: super, Faces: strings.Fields(s), Face: true})
			}
		}
	}
	for _, a := range l {
		expect(t, []api.Class{a}, wantCheck([]api.Class{a}))
		for _, b := range l {
			w := []api.Class{a, b}
			expect(t, w, wantCheck(w))
		}
	}
}

// TestManyLists has lists that are seldom wrong, always the same.
func TestManyLists(t *testing.T) {
	r := rand.New(rand.NewSource(8))
	found := map[error]int{}
	for range 10000 {
		w := some(r)
		want := wantCheck(w)
		expect(t, w, want)
		found[want]++
	}
	for _, want := range []error{nil, api.ErrForm, api.ErrNone, api.ErrFull, api.ErrTwice, api.ErrRound, api.ErrType, api.ErrShape} {
		if found[want] < 50 {
			t.Errorf("%d of 10000 lists give %v", found[want], want)
		}
	}
}

// pick returns one of the right ones, or seldom one of the wrong ones.
func pick(r *rand.Rand, right []string, wrong ...string) string {
	if r.Intn(60) == 0 {
		right = wrong
	}
	return right[r.Intn(len(right))]
}

// some has classes that are above each other as they are in the list, before it
// is shuffled.
func some(r *rand.Rand) []api.Class {
	var w []api.Class
	classes, interfaces := []string{"Object", "Fault"}, []string{}
	for i := range r.Intn(11) + r.Intn(10)/9 {
		name := string("ABCabc_Zz"[i%9]) + string("0Aa_"[r.Intn(4)])
		w = append(w, api.Class{Name: pick(r, []string{name}, "Object", "Fault", "1", "A0", "Aa"), Face: r.Intn(2) == 0})
	}
	for i := range w {
		c, other := &w[i], w[r.Intn(len(w))].Name
		if c.Face {
			c.Super = pick(r, []string{"Object"}, "", "None", "Fault", other)
		} else {
			c.Super = pick(r, classes, "", "None", other, other, other)
		}
		for range min(len(interfaces), r.Intn(4)) {
			if s := pick(r, interfaces, other, other, "Fault", "None"); !slices.Contains(c.Faces, s) || r.Intn(60) == 0 {
				c.Faces = append(c.Faces, s)
			}
		}
		if c.Face {
			interfaces = append(interfaces, c.Name)
		} else {
			classes = append(classes, c.Name)
		}
		if r.Intn(100) == 0 {
			c.Fields, c.Face = []api.Field{{Name: "f", Type: "I"}}, true
		}
	}
	r.Shuffle(len(w), func(i, k int) { w[i], w[k] = w[k], w[i] })
	return w
}

// TestRoomKept gives lists with room behind their ends, because an append within
// the package would write there (rule P2).
func TestRoomKept(t *testing.T) {
	kept := []string{"kept", "kept"}
	room := append(whole(), api.Class{Name: "Kept", Super: "Kept", Faces: kept})
	w := room[:7]
	for i, c := range w {
		w[i].Faces = slices.Concat(c.Faces, kept)[:len(c.Faces)]
	}
	expectEach(t, w, wholeResults())
	expect(t, w[:6], api.ErrNone)
	if got := fmt.Sprint(room[7]); got != "{Kept Kept [kept kept] false [] []}" {
		t.Errorf("what is behind the list has been changed to %s", got)
	}
	for _, c := range w {
		if got := c.Faces[len(c.Faces) : len(c.Faces)+2]; !slices.Equal(got, kept) {
			t.Errorf("what is behind the Faces of %s has been changed to %q", c.Name, got)
		}
	}
}

// lists returns both results.
func lists(t *testing.T, w []api.Class, name string) [][]string {
	t.Helper()
	supers, err := world.Supers(w, name)
	if err != nil {
		t.Fatal(err)
	}
	all, err := world.All(w, name)
	if err != nil {
		t.Fatal(err)
	}
	return [][]string{supers, all}
}

// TestOwnLists overwrites results, and the room behind their ends, and then the
// arguments (rule P2).
func TestOwnLists(t *testing.T) {
	for name, r := range wholeResults() {
		w := whole()
		first, second := lists(t, w, name), lists(t, w, name)
		for _, l := range first {
			for i := range cap(l) {
				l[:cap(l)][i] = "other"
			}
		}
		expectEach(t, w, wholeResults())
		for _, c := range w {
			clear(c.Faces)
		}
		clear(w)
		for i, l := range second {
			if got := strings.Join(l, " "); got != r[i] {
				t.Errorf("a result for %s has been changed to %q", name, got)
			}
		}
	}
}

// TestOwnStrings looks for the bytes of the results in memory, because strings
// that are shared cannot be seen in any other way (rule P2).
func TestOwnStrings(t *testing.T) {
	w := whole()
	used := map[*byte]string{}
	note := func(s, where string) {
		t.Helper()
		if s == "" {
			return
		}
		if other, ok := used[unsafe.StringData(s)]; ok && (other == "a result" || where == "a result") {
			t.Errorf("%s of %s shares memory with %s", s, where, other)
		}
		used[unsafe.StringData(s)] = where
	}
	note(api.Object, "a constant")
	note(api.Fault, "a constant")
	names := []string{"Object", "Fault"}
	for i := range w {
		c := &w[i]
		// All strings of w are parts of one constant, and may share its memory.
		c.Name, c.Super = strings.Clone(c.Name), strings.Clone(c.Super)
		note(c.Name, "the name of a class")
		note(c.Super, "a superclass")
		for k, s := range c.Faces {
			c.Faces[k] = strings.Clone(s)
			note(c.Faces[k], "an interface")
		}
		names = append(names, c.Name)
	}
	for range 2 {
		for _, name := range names {
			asked := strings.Clone(name)
			note(asked, "an argument")
			for _, l := range lists(t, w, asked) {
				for _, s := range l {
					note(s, "a result")
				}
			}
		}
	}
}

// TestSameAgain has lists with the same names in between, which could be
// confused if anything were kept (rule P2).
func TestSameAgain(t *testing.T) {
	for range 3 {
		expectEach(t, whole(), wholeResults())
		expectEach(t, listed("class A Object; class B Object"), map[string][2]string{"A": {"A Object", "A Object"}, "B": {"B Object", "B Object"}})
		expectEach(t, listed("class A B; class B Fault"), map[string][2]string{"A": {"A B Fault Object", "A B Fault Object"}})
		expectEach(t, listed("face A Object; face B Object A"), map[string][2]string{"B": {"B Object", "A B Object"}})
		expect(t, listed("class A Object B"), api.ErrNone)
		expect(t, listed("class A B; class B A"), api.ErrRound)
		expectEach(t, nil, map[string][2]string{"Object": {"Object", "Object"}})
		expectError(t, nil, []string{"A", "B", "F"}, api.ErrNone)
	}
}

// TestLong has lists that must be decided in time (rule P1). It does without
// wantCheck, which compares each element with each other one.
func TestLong(t *testing.T) {
	long := strings.Repeat("a", 1<<22)
	var many []string
	for i := range 1 << 16 {
		many = append(many, fmt.Sprint("n", i))
	}
	for i, e := range []struct {
		w    []api.Class
		want error
	}{
		{make([]api.Class, 1<<18), api.ErrFull},
		{chain(1 << 16), api.ErrFull},
		{[]api.Class{{Name: long, Super: "Object"}}, api.ErrForm},
		{[]api.Class{{Name: "A", Super: long}}, api.ErrForm},
		{[]api.Class{{Name: "A", Super: "Object", Faces: []string{long}}}, api.ErrForm},
		{[]api.Class{{Name: "A", Super: "Object", Faces: many}}, api.ErrFull},
	} {
		if err := world.Check(e.w); err != e.want {
			t.Errorf("Check of long list %d = %v, want %v", i, err, e.want)
		}
		expectError(t, e.w, []string{"A", "Object", long}, e.want)
	}
	expectError(t, whole(), []string{long}, api.ErrNone)
}

func ExampleCheck() {
	fmt.Println(world.Check(nil))
	fmt.Println(world.Check([]api.Class{{Name: "A", Super: "B"}}))
	fmt.Println(world.Check([]api.Class{{Name: "A", Super: "B"}, {Name: "B", Super: "A"}}))
	// Output:
	// <nil>
	// ErrNone
	// ErrRound
}

func ExampleSupers() {
	fmt.Println(world.Supers(nil, "Fault"))
	fmt.Println(world.Supers(nil, "A"))
	// Output:
	// [Fault Object] <nil>
	// [] ErrNone
}

func ExampleAll() {
	w := []api.Class{{Name: "a", Super: "Fault", Faces: []string{"F"}}, {Name: "F", Super: "Object", Face: true}}
	fmt.Println(world.All(w, "a"))
	// Output:
	// [F Fault Object a] <nil>
}

// FuzzWorld takes each class from four bytes, two of which give its Faces, and
// one name from the input.
func FuzzWorld(f *testing.F) {
	f.Add([]byte{0, 1, 0, 0, 1, 0x86, 3, 0}, "A")
	f.Add([]byte{0x80, 0x82, 0, 0, 0x81, 0x80, 1, 0}, "Object")
	f.Add(slices.Repeat([]byte{3, 4, 5, 6}, 11), longest)
	f.Fuzz(func(t *testing.T, b []byte, name string) {
		names := append(strings.Fields("A B C D E F G Object Fault None"), name, "")
		var w []api.Class
		for len(b) >= 4 && len(w) < 12 {
			c := api.Class{Name: names[int(b[0]&15)%len(names)], Super: names[int(b[1]&15)%len(names)], Face: b[0]&128 != 0}
			for i, s := range names[:len(names)-1] {
				if (int(b[2])|int(b[3])<<8)&(1<<i) != 0 {
					c.Faces = append(c.Faces, s)
				}
			}
			if b[1]&128 != 0 {
				c.Methods = []api.Method{{Name: "m", Type: "()V", Abstract: true, Locals: int(b[3]) / 16}}
			}
			w, b = append(w, c), b[4:]
		}
		expectFuzzed(t, w, name)
	})
}

// expectFuzzed asks as expect does, but for names that may be any.
func expectFuzzed(t *testing.T, w []api.Class, name string) {
	t.Helper()
	want := wantCheck(w)
	if err := world.Check(w); err != want {
		t.Fatalf("Check(%s) = %v, want %v", show(w), err, want)
	}
	if want != nil {
		expectError(t, w, []string{name, "A", "Object"}, want)
		return
	}
	for _, s := range []string{name, "A", "B", "G", "Object", "Fault", "None"} {
		if there(w, s, false) || there(w, s, true) {
			expectLists(t, w, s, wantSupers(w, s), wantAll(w, s))
		} else {
			expectError(t, w, []string{s}, api.ErrNone)
		}
	}
}
