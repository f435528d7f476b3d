package lay_test

import (
	"fmt"
	"math/rand"
	"slices"
	"strconv"
	"strings"
	"testing"
	"unsafe"

	"coffeehouse/api"
	"coffeehouse/find"
	"coffeehouse/lay"
	"coffeehouse/world"
)

const longest = "abcdefghijklmnopqrst" // a name of MaxName bytes

// listed returns the classes with the given texts, between which there are bars:
// class or face, the Name, the Super (- for an empty one), and then in any order
// the Faces, the fields, each with a colon before its type, and the methods.
func listed(s string) []api.Class {
	var w []api.Class
	for _, text := range strings.Split(s, " | ") {
		words := strings.Fields(text)
		c := api.Class{Face: words[0] == "face", Name: words[1], Super: strings.TrimPrefix(words[2], "-")}
		for _, word := range words[3:] {
			if strings.Contains(word, ":") {
				c.Fields = append(c.Fields, fields(word)...)
			} else if strings.Contains(word, "(") {
				c.Methods = append(c.Methods, method(word))
			} else {
				c.Faces = append(c.Faces, word)
			}
		}
		w = append(w, c)
	}
	return w
}

// fields returns the fields with the texts, between which there are spaces.
func fields(s string) []api.Field {
	var l []api.Field
	for _, word := range strings.Fields(s) {
		name, kind, _ := strings.Cut(word, ":")
		l = append(l, api.Field{Name: name, Type: kind})
	}
	return l
}

// method returns a method with the text, which takes no more than the object.
func method(s string) api.Method {
	at := strings.Index(s, "(")
	return api.Method{Name: s[:at], Type: s[at:], Locals: 1, Code: []api.Ins{{Op: api.Nop}, {Op: api.Return}}, Handlers: []api.Handler{{To: 1, Class: "Fault"}}}
}

// none stands for an empty list in a text.
const none = "-"

// told has a result in one text. With an error it must be zero, and the error
// must be an api.Errno itself and not wrap one (rule P3).
func told(result string, zero bool, err error) string {
	if err == nil {
		return result
	}
	if e, ok := err.(api.Errno); ok && zero {
		return e.Error()
	}
	return fmt.Sprintf("%T(%v) with %s", err, err, result)
}

// show writes a list in few words, even if it is long.
func show(w []api.Class) string {
	s := fmt.Sprintf("%+v", w)
	return s[:min(len(s), 1500)]
}

// expectFields has the result of Fields as a text: types with spaces between
// them, or an error. What statedFields says must be the same, so that the results
// that the tests give by hand confirm it.
func expectFields(t *testing.T, w []api.Class, class, want string) {
	t.Helper()
	l, err := lay.Fields(w, class)
	text := strings.Join(l, " ")
	if len(l) == 0 {
		text = none
	}
	if got := told(text, len(l) == 0, err); got != want {
		t.Fatalf("Fields(%s, %q) = %s, want %s", show(w), class, got, want)
	}
	expectStatedFields(t, w, class)
}

// expectPlace does the same for Place.
func expectPlace(t *testing.T, w []api.Class, class, name, want string) {
	t.Helper()
	n, err := lay.Place(w, class, name)
	if got := told(strconv.Itoa(n), n == 0, err); got != want {
		t.Fatalf("Place(%s, %q, %q) = %s, want %s", show(w), class, name, got, want)
	}
	expectStatedPlace(t, w, class, name)
}

func expectStatedFields(t *testing.T, w []api.Class, class string) {
	t.Helper()
	l, err := lay.Fields(w, class)
	want, wantErr := statedFields(w, class)
	if !slices.Equal(l, want) || err != wantErr {
		t.Fatalf("Fields(%s, %q) = %q, %v, want %q, %v", show(w), class, l, err, want, wantErr)
	}
}

// expectStatedPlace also has the type of the field that find.Field finds at its
// place in Fields.
func expectStatedPlace(t *testing.T, w []api.Class, class, name string) {
	t.Helper()
	n, err := lay.Place(w, class, name)
	want, wantErr := statedPlace(w, class, name)
	if n != want || err != wantErr {
		t.Fatalf("Place(%s, %q, %q) = %d, %v, want %d, %v", show(w), class, name, n, err, want, wantErr)
	}
	if err != nil {
		return
	}
	_, f, _ := find.Field(w, class, name)
	if l, err := lay.Fields(w, class); err != nil || n >= len(l) || l[n] != f.Type {
		t.Fatalf("Fields(%s, %q) = %q, %v, want %s at %d", show(w), class, l, err, f.Type, n)
	}
}

// expectError has an error of both functions, for each class and name.
func expectError(t *testing.T, w []api.Class, classes, names []string, want error) {
	t.Helper()
	for _, class := range classes {
		if l, err := lay.Fields(w, class); len(l) != 0 || err != want {
			t.Fatalf("Fields(%s, %q) = %q, %v, want %v alone", show(w), class, l, err, want)
		}
	}
	expectNoPlace(t, w, classes, names, want)
}

func expectNoPlace(t *testing.T, w []api.Class, classes, names []string, want error) {
	t.Helper()
	for _, class := range classes {
		for _, name := range names {
			if n, err := lay.Place(w, class, name); n != 0 || err != want {
				t.Fatalf("Place(%s, %q, %q) = %d, %v, want %v alone", show(w), class, name, n, err, want)
			}
		}
	}
}

// statedFields says what LA1 says, without world.Supers.
func statedFields(w []api.Class, class string) ([]string, error) {
	if err := world.Check(w); err != nil {
		return nil, err
	}
	if !slices.Contains(names(w), class) {
		return nil, api.ErrNone
	}
	return statedTypes(w, class), nil
}

func statedTypes(w []api.Class, class string) []string {
	for _, c := range w {
		if c.Name == class {
			l := statedTypes(w, c.Super)
			for _, f := range c.Fields {
				l = append(l, f.Type)
			}
			return l
		}
	}
	return nil
}

// statedPlace says what LA1 says by counting the fields that come before.
func statedPlace(w []api.Class, class, name string) (int, error) {
	owner, _, err := find.Field(w, class, name)
	if err != nil {
		return 0, err
	}
	supers, err := world.Supers(w, owner)
	if err != nil {
		return 0, err
	}
	before := 0
	for _, c := range w {
		for _, f := range c.Fields {
			if c.Name == owner && f.Name == name {
				break
			}
			if slices.Contains(supers, c.Name) {
				before++
			}
		}
	}
	return before, nil
}

// names returns the classes that are there.
func names(w []api.Class) []string {
	l := []string{"Object", "Fault"}
	for _, c := range w {
		l = append(l, c.Name)
	}
	return l
}

// inEachOrder calls f with l in every order.
func inEachOrder[E any](l []E, f func(l []E)) {
	var fill func(n int)
	fill = func(n int) {
		if n == len(l) {
			f(l)
			return
		}
		for i := n; i < len(l); i++ {
			l[n], l[i] = l[i], l[n]
			fill(n + 1)
			l[n], l[i] = l[i], l[n]
		}
	}
	fill(0)
}

// hand has classes and results that are written by hand, as in "B = I J, B f =
// 1, A f = ErrNone".
type hand struct{ classes, results string }

// expectResults has the results, of Place if the question has the name of a
// field.
func expectResults(t *testing.T, w []api.Class, results string) {
	t.Helper()
	for _, text := range strings.Split(results, ", ") {
		question, want, _ := strings.Cut(text, " = ")
		if class, name, ok := strings.Cut(question, " "); ok {
			expectPlace(t, w, class, name, want)
		} else {
			expectFields(t, w, class, want)
		}
	}
}

// expectHands has the results for the classes in every order.
func expectHands(t *testing.T, l map[string]hand) {
	for what, h := range l {
		t.Run(what, func(t *testing.T) {
			inEachOrder(listed(h.classes), func(w []api.Class) { expectResults(t, w, h.results) })
		})
	}
}

// TestFields has what LA1 says of Fields.
func TestFields(t *testing.T) {
	expectHands(t, map[string]hand{
		"its own":               {"class A Object f:I g:J h:LA; k:[[LNone;", "A = I J LA; [[LNone;"},
		"its own and one alone": {"class A Object f:J", "A = J"},
		"none":                  {"class A Object | class B A", "A = -, B = -"},
		"the superclass's":      {"class A Object f:I g:J | class B A", "B = I J, A = I J"},
		"both":                  {"class A Object f:I g:J | class B A h:LA; k:[I", "B = I J LA; [I, A = I J"},
		"further up":            {"class A Object f:J g:I | class B A | class C B | class D C", "D = J I, C = J I, B = J I, A = J I"},
		"further up and its own": {"class A Object f:J g:I | class B A | class C B h:[J | class D C | class E D k:LE; f:[I",
			"E = J I [J LE; [I, D = J I [J, C = J I [J, B = J I, A = J I"},
		"only the last":     {"class A Object | class B A | class C B f:I g:[I", "A = -, B = -, C = I [I"},
		"only the middle":   {"class A Object | class B A f:I g:[I | class C B", "A = -, B = I [I, C = I [I"},
		"three classes":     {"class A Object f:I g:J | class B A h:[I k:[J | class C B m:[[I n:[[J", "A = I J, B = I J [I [J, C = I J [I [J [[I [[J"},
		"names upside down": {"class Z Object f:I g:J | class M Z h:[I k:[J | class A M m:[[I n:[[J", "Z = I J, M = I J [I [J, A = I J [I [J [[I [[J"},
		"names out of order": {"class M Object f:I | class z M f:J | class A z f:[I | class _ A f:[J",
			"M = I, z = I J, A = I J [I, _ = I J [I [J"},
		"fields out of order":  {"class A Object k:[I f:J a:I z:LA; | class B A g:[J b:[[I Z:LB; _:[[J", "A = [I J I LA;, B = [I J I LA; [J [[I LB; [[J"},
		"the same names":       {"class A Object f:I g:J | class B A g:[J f:[I | class C B f:LC;", "A = I J, B = I J [J [I, C = I J [J [I LC;"},
		"the same fields":      {"class A Object f:I g:J | class B A f:I g:J | class C B g:J f:I", "A = I J, B = I J I J, C = I J I J J I"},
		"a type again":         {"class A Object f:I g:I h:J k:I | class B A f:I m:I n:J", "A = I I J I, B = I I J I I I J"},
		"not a subclass's":     {"class A Object f:I | class B A g:J | class C B h:[I | class D A k:[J", "A = I, B = I J, C = I J [I, D = I [J"},
		"not another class's":  {"class A Object f:I | class B Object g:J | class C B h:[I | class D Fault k:[J", "A = I, B = J, C = J [I, D = [J"},
		"of an exception":      {"class E Fault f:I g:J | class D E h:[I | class A Object k:[J", "E = I J, D = I J [I, Fault = -, Object = -, A = [J"},
		"an exception without": {"class E Fault | class D E | class A Object f:J", "E = -, D = -, Fault = -"},
		"not the interfaces'":  {"class A Object F f:I | class B A G H g:J | face F Object G m()V | face G Object n()V | face H Object", "A = I, B = I J, F = -, G = -, H = -"},
		"no methods":           {"class A Object m()V f:J n()I | class B A g()J", "A = J, B = J"},
		"the longest name":     {"class " + longest + " Object " + longest + ":L" + longest + "; | class A " + longest + " f:[[[L" + longest + ";", longest + " = L" + longest + ";, A = L" + longest + "; [[[L" + longest + ";"},
		"several subclasses":   {"class A Object f:I | class B A f:J | class C A g:[I | class D B g:[J | class E B", "A = I, B = I J, C = I [I, D = I J [J, E = I J"},
	})
}

// TestPlaces has what LA1 says of Place.
func TestPlaces(t *testing.T) {
	expectHands(t, map[string]hand{
		"its own":          {"class A Object f:I g:J h:LA; k:[[LNone;", "A f = 0, A g = 1, A h = 2, A k = 3, A m = ErrNone"},
		"the superclass's": {"class A Object f:I g:J | class B A", "B f = 0, B g = 1, A f = 0, A g = 1"},
		"both":             {"class A Object f:I g:J | class B A h:LA; k:[I", "B f = 0, B g = 1, B h = 2, B k = 3, A h = ErrNone"},
		"further up": {"class A Object f:J g:I | class B A | class C B | class D C h:I k:[I",
			"D f = 0, D g = 1, D h = 2, D k = 3, C f = 0, C g = 1, B f = 0, B g = 1, C h = ErrNone, B k = ErrNone"},
		"only the last":   {"class A Object | class B A | class C B f:I g:[I", "C f = 0, C g = 1, B f = ErrNone, A g = ErrNone"},
		"only the middle": {"class A Object | class B A f:I g:[I | class C B", "C f = 0, C g = 1, B f = 0, B g = 1, A f = ErrNone"},
		"three classes": {"class A Object f:I g:J | class B A h:[I k:[J | class C B m:[[I n:[[J",
			"C f = 0, C g = 1, C h = 2, C k = 3, C m = 4, C n = 5, B f = 0, B k = 3, B m = ErrNone, A g = 1, A h = ErrNone"},
		"names upside down": {"class Z Object z:I y:J | class M Z b:[I a:[J | class A M n:[[I m:[[J",
			"A z = 0, A y = 1, A b = 2, A a = 3, A n = 4, A m = 5, M b = 2, M n = ErrNone, Z y = 1"},
		"another type":         {"class A Object f:I g:J | class B A f:[I", "B f = 2, B g = 1, A f = 0, A g = 1"},
		"the same type":        {"class A Object f:I g:J | class B A f:I", "B f = 2, B g = 1, A f = 0, A g = 1"},
		"the last one again":   {"class A Object f:I g:I | class B A g:I", "B f = 0, B g = 2, A f = 0, A g = 1"},
		"another order":        {"class A Object f:I g:I h:I | class B A h:I f:I g:I", "B f = 4, B g = 5, B h = 3, A f = 0, A g = 1, A h = 2"},
		"all of one type":      {"class A Object f:I g:I | class B A h:I k:I", "B f = 0, B g = 1, B h = 2, B k = 3"},
		"three of a name":      {"class A Object e:J f:I | class B A f:I g:I | class C B f:I | class D C", "D e = 0, D f = 4, C f = 4, D g = 3, B f = 2, B g = 3, A f = 1"},
		"hidden further up":    {"class A Object f:I g:J | class B A h:J | class C B | class D C g:J f:I", "D f = 4, D g = 3, D h = 2, C f = 0, C g = 1, B f = 0, A g = 1"},
		"hidden in one alone":  {"class A Object f:I | class B A f:I | class C A g:I | class D B g:I | class E C f:J", "A f = 0, B f = 1, C f = 0, D f = 1, E f = 2, C g = 1, D g = 2, E g = 1"},
		"a subclass's":         {"class A Object f:I | class B A g:J | class C B h:[I", "A g = ErrNone, A h = ErrNone, B h = ErrNone, B g = 1, C h = 2"},
		"another class's":      {"class A Object f:I | class B Object g:J | class C B h:[I | class D A g:I", "A g = ErrNone, B f = ErrNone, C f = ErrNone, D h = ErrNone, C g = 0, C h = 1, D g = 1"},
		"of Object and Fault":  {"class A Object f:I | class E Fault g:I h:J | class D E f:I", "Object f = ErrNone, Fault g = ErrNone, Fault h = ErrNone, Fault f = ErrNone, E g = 0, E h = 1, E f = ErrNone, D f = 2, D h = 1"},
		"of interfaces":        {"class A Object F f:I | class B A G g:J | face F Object G f()V | face G Object g()V", "A f = 0, B g = 1, B f = 0, F f = ErrNone, F g = ErrNone, G f = ErrNone, G g = ErrNone"},
		"methods":              {"class A Object f()I f:J g()V h()I | class B A g:I h()V", "A f = 0, A g = ErrNone, A h = ErrNone, B g = 1, B h = ErrNone"},
		"similar names":        {"class A Object F:I f:I ff:I f_:I _:I | class a A f1:I FF:I", "a F = 0, a f = 1, a ff = 2, a f_ = 3, a _ = 4, a f1 = 5, a FF = 6, a fF = ErrNone, A f1 = ErrNone, a __ = ErrNone"},
		"names of classes":     {"class A Object B:I Object:J | class B A A:LB; B:LB;", "A B = 0, A Object = 1, A A = ErrNone, B A = 2, B B = 3, B Object = 1, Object Object = ErrNone"},
		"names in other types": {"class A Object I:J J:I | class B A L:LL; LL:LI; | class I Object | class L I A:LB;", "A I = 0, A J = 1, B L = 2, B LL = 3, L A = 0, B A = ErrNone, I I = ErrNone, A LL = ErrNone"},
	})
}

// TestTypes has types of all forms in one class and above it.
func TestTypes(t *testing.T) {
	forms := strings.Fields("I J LA; LObject; LNone; L_; [I [J [LB; [[I [[[I [[[LFault; [[[L" + longest + "; L" + longest + ";")
	for _, first := range forms {
		for _, second := range forms {
			w := listed("class A Object f:" + first + " g:" + second + " h:" + first + " | class B A f:" + second + " k:" + first)
			expectFields(t, w, "A", first+" "+second+" "+first)
			expectFields(t, w, "B", first+" "+second+" "+first+" "+second+" "+first)
			expectResults(t, w, "A f = 0, A g = 1, A h = 2, B f = 3, B g = 1, B h = 2, B k = 4")
		}
	}
}

// TestEverywhere has each list of up to two fields in each of three classes, one
// above the other, with names in each order.
func TestEverywhere(t *testing.T) {
	own := []string{"", "f:I", "g:I", "f:J", "f:I g:I", "g:I f:I", "f:I g:J", "g:J f:I"}
	inEachOrder([]string{"A", "B", "C"}, func(n []string) {
		for _, x := range own {
			for _, y := range own {
				for _, z := range own {
					expectStated(t, listed("class "+n[2]+" "+n[1]+" "+z+" | class "+n[0]+" Object "+x+" | class "+n[1]+" "+n[0]+" "+y))
				}
			}
		}
	})
}

// expectStated has what LA1 says of all classes and some names.
func expectStated(t *testing.T, w []api.Class) {
	t.Helper()
	for _, class := range append(names(w), "None") {
		expectStatedFields(t, w, class)
		for _, name := range []string{"f", "g", "none"} {
			expectStatedPlace(t, w, class, name)
		}
	}
}

// most returns MaxClasses classes, one above the other, each with as many fields
// as a class may have and with a type of its own for each.
func most() []api.Class {
	var w []api.Class
	above := "Object"
	for i := range api.MaxClasses {
		c := api.Class{Name: string(rune('Z' - i)), Super: above}
		above = c.Name
		for k := range api.MaxMembers {
			c.Fields = append(c.Fields, api.Field{Name: fmt.Sprintf("%c%d", 'q'-k, i), Type: fmt.Sprintf("[LT%d_%d;", i, k)})
		}
		w = append(w, c)
	}
	return w
}

// TestMost has as many fields as there can be.
func TestMost(t *testing.T) {
	w := most()
	var types []string
	for i, c := range w {
		for _, f := range c.Fields {
			types = append(types, f.Type)
		}
		expectFields(t, w, c.Name, strings.Join(types, " "))
		for k, above := range w {
			for n, f := range above.Fields {
				want := strconv.Itoa(k*api.MaxMembers + n)
				if k > i {
					want = "ErrNone"
				}
				expectPlace(t, w, c.Name, f.Name, want)
			}
		}
	}
	if len(types) != 80 {
		t.Errorf("there are %d fields and not 80", len(types))
	}
	w = append(w, api.Class{Name: "A", Super: "Object", Fields: fields("f:I")})
	expectError(t, w, append(names(w), "None"), []string{"f", "q0", "none"}, api.ErrFull)
}

// whole has fields of each sort, whose names do not follow the alphabet.
func whole() []api.Class {
	return listed("class C B H f:[LC; m()V | class A Object F g:I f:J | class B A G h:LB; g:I | class E Fault K f:I e:J n()V | class D A f:J d:[I | class M D | " +
		"face F Object f()V | face G Object F h()V | face H Object K | face K Object")
}

// wholeResults has those of whole, in whatever order its classes are.
func wholeResults() string {
	return "A = I J, B = I J LB; I, C = I J LB; I [LC;, D = I J J [I, M = I J J [I, E = I J, F = -, G = -, H = -, K = -, Object = -, Fault = -, None = ErrNone, " +
		"A g = 0, A f = 1, B g = 3, B f = 1, B h = 2, C g = 3, C f = 4, C h = 2, D g = 0, D f = 2, D d = 3, M g = 0, M f = 2, M d = 3, E f = 0, E e = 1, " +
		"A h = ErrNone, A d = ErrNone, B d = ErrNone, E g = ErrNone, F f = ErrNone, G h = ErrNone, Object f = ErrNone, Fault f = ErrNone, None f = ErrNone"
}

// TestOrderOfClasses has the classes of whole in many orders.
func TestOrderOfClasses(t *testing.T) {
	r := rand.New(rand.NewSource(12))
	w := whole()
	for k := range w {
		expectResults(t, slices.Concat(w[k:], w[:k]), wholeResults())
	}
	for range 100 {
		r.Shuffle(len(w), func(i, k int) { w[i], w[k] = w[k], w[i] })
		expectResults(t, w, wholeResults())
	}
}

// TestOrderOfFields has the fields of a class in each order, below and above
// others.
func TestOrderOfFields(t *testing.T) {
	inEachOrder(strings.Fields("b:I a:J d:[I c:[J"), func(l []string) {
		all := strings.Join(l, " ")
		w := listed("class B A x:LB; a:LA; | class A Z " + all + " | class Z Object a:LZ; e:LZ;")
		types := "LZ; LZ;"
		for i, s := range l {
			name, kind, _ := strings.Cut(s, ":")
			expectPlace(t, w, "A", name, strconv.Itoa(2+i))
			if name != "a" {
				expectPlace(t, w, "B", name, strconv.Itoa(2+i))
			}
			types += " " + kind
		}
		expectFields(t, w, "A", types)
		expectFields(t, w, "B", types+" LB; LA;")
		expectResults(t, w, "B x = 6, B a = 7, B e = 1, A e = 1, Z a = 0")
	})
}

// TestNoClasses has only the classes that are always there.
func TestNoClasses(t *testing.T) {
	for _, w := range [][]api.Class{nil, {}} {
		expectFields(t, w, "Object", none)
		expectFields(t, w, "Fault", none)
		expectNoPlace(t, w, []string{"Object", "Fault"}, noNames(), api.ErrNone)
		expectError(t, w, noNames(), noNames(), api.ErrNone)
	}
}

// noNames are in none of the lists of the tests: names of no class and of no
// field, and texts that are no names.
func noNames() []string {
	return []string{"", "None", "object", "Objec", "Objects", "fault", "a", "AA", "LA;", "[A", "I", "J", "1", "0", "-", " ", "A ", " A", "f ", " f", "f\x00", "A\x00", "A.f", "f:I",
		longest, longest + "u", "\xff", strings.Repeat("A", 1<<16)}
}

// TestNoClass has classes that do not exist, with fields that others have and
// with those that none has.
func TestNoClass(t *testing.T) {
	expectError(t, whole(), noNames(), append(noNames(), "f", "g", "h", "e", "d"), api.ErrNone)
	expectError(t, most(), noNames(), []string{"q0", "j9", "none"}, api.ErrNone)
}

// TestNoField has fields that no class has, of each class.
func TestNoField(t *testing.T) {
	expectNoPlace(t, whole(), names(whole()), append(noNames(), "m", "n", "Object"), api.ErrNone)
	expectNoPlace(t, most(), names(most()), append(noNames(), "f", "q", "0q", "r0", "i0", "q10"), api.ErrNone)
}

// TestDifferentPlaces has each field of a class and of those above it at a place
// of its own, a hidden one too, so that together they have all places.
func TestDifferentPlaces(t *testing.T) {
	for _, w := range [][]api.Class{whole(), most()} {
		for _, class := range names(w) {
			types, err := lay.Fields(w, class)
			if err != nil {
				t.Fatal(err)
			}
			supers, err := world.Supers(w, class)
			if err != nil {
				t.Fatal(err)
			}
			taken := map[int]string{}
			for _, c := range w {
				for _, f := range c.Fields {
					if !slices.Contains(supers, c.Name) {
						continue
					}
					n, err := lay.Place(w, c.Name, f.Name)
					if other, ok := taken[n]; ok || err != nil || n < 0 || n >= len(types) || types[n] != f.Type {
						t.Errorf("%s of %s is at %d (%v) in %q of %s, as is %q", f.Name, c.Name, n, err, types, class, other)
					}
					taken[n] = c.Name + "." + f.Name
				}
			}
			if len(taken) != len(types) {
				t.Errorf("%s has the fields %v and %d types", class, taken, len(types))
			}
		}
	}
}

// expectSamePlaces has a field at one place in all classes in which find.Field
// finds it, and returns in how many.
func expectSamePlaces(t *testing.T, w []api.Class, class, name string) int {
	t.Helper()
	want, err := lay.Place(w, class, name)
	if err != nil {
		t.Fatal(err)
	}
	found := 0
	for _, below := range names(w) {
		if owner, _, err := find.Field(w, below, name); err != nil || owner != class {
			continue
		}
		found++
		if n, err := lay.Place(w, below, name); n != want || err != nil {
			t.Fatalf("Place(%s, %q, %q) = %d, %v, want %d as in %s", show(w), below, name, n, err, want, class)
		}
	}
	return found
}

// TestSamePlace has classes with many subclasses, beside which there are others.
func TestSamePlace(t *testing.T) {
	w := listed("class A Object e:J f:I | class B A g:J | class C A h:[I g:J | class D B f:J | class E B h:I | class F C | class G F f:I g:I | class H E h:J g:[J | class K Object f:I g:I | class M A")
	inEachOrder(w[6:], func([]api.Class) {
		for class, want := range map[string]int{"A e": 9, "A f": 7, "B g": 3, "C g": 2, "C h": 3, "D f": 1, "E h": 1, "G f": 1, "G g": 1, "H h": 1, "H g": 1, "K f": 1, "K g": 1} {
			class, name, _ := strings.Cut(class, " ")
			if got := expectSamePlaces(t, w, class, name); got != want {
				t.Errorf("%s of %s is found in %d classes, and not in %d", name, class, got, want)
			}
		}
	})
}

// flaw is a class that makes a list wrong, and the stage in which world.Check
// finds it: a single class or its name, what it names, and cycles.
type flaw struct {
	stage int
	c     api.Class
	want  error
}

func flaws(name string) []flaw {
	method := func(m api.Method) []api.Method {
		m.Name, m.Type = "m", "()V"
		return []api.Method{m}
	}
	abstract := api.Method{Name: "m", Type: "()V", Abstract: true}
	return []flaw{
		{1, api.Class{Super: "Object"}, api.ErrForm},
		{1, api.Class{Name: "1", Super: "Object", Fields: fields("f:I")}, api.ErrForm},
		{1, api.Class{Name: name, Super: "LA;", Fields: fields("f:I")}, api.ErrForm},
		{1, api.Class{Name: name, Super: "Object", Faces: []string{""}}, api.ErrForm},
		{1, api.Class{Name: name, Super: "Object", Faces: []string{"F", "F"}}, api.ErrTwice},
		{1, api.Class{Name: name, Super: "Object", Fields: make([]api.Field, 9)}, api.ErrFull},
		{1, api.Class{Name: name, Super: "Object", Fields: fields("f:V")}, api.ErrForm},
		{1, api.Class{Name: name, Super: "Object", Fields: fields("f:I g:[[[[I")}, api.ErrForm},
		{1, api.Class{Name: name, Super: "Object", Fields: fields("1:I")}, api.ErrForm},
		{1, api.Class{Name: name, Super: "Object", Fields: fields("f:I f:J")}, api.ErrTwice},
		{1, api.Class{Name: name, Super: "Object", Methods: []api.Method{{Name: "m", Type: "V"}}}, api.ErrForm},
		{1, api.Class{Name: name, Super: "Object", Methods: []api.Method{abstract, abstract}}, api.ErrTwice},
		{1, api.Class{Name: name, Super: "Object", Methods: method(api.Method{Locals: 9})}, api.ErrRange},
		{1, api.Class{Name: name, Super: "Object", Methods: method(api.Method{Abstract: true, Static: true})}, api.ErrShape},
		{1, api.Class{Name: name, Super: "Object", Methods: method(api.Method{Code: []api.Ins{{Op: api.Return}}})}, api.ErrRange},
		{1, api.Class{Name: name, Super: "Object", Face: true, Fields: fields("f:I")}, api.ErrShape},
		{1, api.Class{Name: "Object", Super: "Object"}, api.ErrTwice},
		{1, api.Class{Name: "Fault", Super: "Object", Fields: fields("f:I")}, api.ErrTwice},
		{1, api.Class{Name: "Z", Super: "Object", Fields: fields("f:I")}, api.ErrTwice},
		{2, api.Class{Name: name, Fields: fields("f:I")}, api.ErrForm},
		{2, api.Class{Name: name, Super: "None", Fields: fields("f:I")}, api.ErrNone},
		{2, api.Class{Name: name, Super: "Object", Faces: []string{"None"}}, api.ErrNone},
		{2, api.Class{Name: name, Super: "F", Fields: fields("f:I")}, api.ErrType},
		{2, api.Class{Name: name, Super: "Object", Faces: []string{"A"}, Fields: fields("f:I")}, api.ErrType},
		{2, api.Class{Name: name, Super: "Fault", Face: true}, api.ErrType},
		{3, api.Class{Name: name, Super: name, Fields: fields("f:I")}, api.ErrRound},
		{3, api.Class{Name: name, Super: "Object", Faces: []string{name}, Face: true}, api.ErrRound},
	}
}

// expectFlawed has an error of world.Check for classes that are there and not,
// with fields that they have and not.
func expectFlawed(t *testing.T, w []api.Class, want error) {
	t.Helper()
	if err := world.Check(w); err != want {
		t.Fatalf("world.Check(%s) = %v, want %v", show(w), err, want)
	}
	expectError(t, w, []string{"A", "B", "F", "X", "Y", "Z", "Object", "Fault", "None", ""}, []string{"f", "g", "m", "none", ""}, want)
}

// TestWorldErrors has each error of world.Check alone and together with each
// other one and with all errors that come later, at both ends of the list.
func TestWorldErrors(t *testing.T) {
	right := func() []api.Class {
		return listed("class Z Object | class A Object F f:I m()V | class B A g:J | face F Object")
	}
	found := map[error]bool{api.ErrFull: true}
	for _, x := range flaws("X") {
		found[x.want] = true
		expectFlawed(t, append(right(), x.c), x.want)
		expectFlawed(t, slices.Insert(right(), 1, x.c), x.want)
		expectFlawed(t, append(right(), slices.Repeat([]api.Class{x.c}, 7)...), api.ErrFull)
		for _, y := range flaws("Y") {
			want := x.want
			if y.stage < x.stage {
				want = y.want
			}
			expectFlawed(t, append(right(), x.c, y.c), want)
			expectFlawed(t, slices.Insert(right(), 1, x.c, y.c), want)
		}
	}
	for _, want := range []error{api.ErrForm, api.ErrRange, api.ErrNone, api.ErrFull, api.ErrTwice, api.ErrRound, api.ErrType, api.ErrShape} {
		if !found[want] {
			t.Errorf("no list gives %v", want)
		}
	}
}

// TestRounds has longer cycles, of classes with fields, from which and from
// beside which they are asked.
func TestRounds(t *testing.T) {
	for _, s := range []string{
		"class X Y f:I | class Y X g:I | class A Object f:I",
		"class X Y f:I | class Y Z g:I | class Z X f:J | class A Object f:I | class B Z f:I",
		"class A Object F f:I | face F Object G | face G Object F",
	} {
		inEachOrder(listed(s), func(w []api.Class) { expectFlawed(t, w, api.ErrRound) })
	}
}

// TestManyLists has lists from a fixed seed, most of which are valid, one after
// another, so that nothing that is kept from an earlier one goes unnoticed.
func TestManyLists(t *testing.T) {
	r := rand.New(rand.NewSource(12))
	seen := map[string]int{}
	for range 3000 {
		w := some(r)
		kept := fmt.Sprintf("%#v", w)
		for range 10 {
			class, name := pick(r, append(names(w), "None")), pick(r, []string{"f", "g", "h", "k"})
			expectStatedFields(t, w, class)
			expectStatedPlace(t, w, class, name)
			sort := sortOf(w, class, name)
			if seen[sort]++; sort == "its own" || sort == "hiding" {
				expectSamePlaces(t, w, class, name)
			}
		}
		if now := fmt.Sprintf("%#v", w); now != kept {
			t.Fatalf("the list %s has been changed to %s", kept, now)
		}
	}
	for _, s := range []string{"its own", "hiding", "above", "nothing", "an error"} {
		if seen[s] < 500 {
			t.Errorf("%d of 30000 results were %s", seen[s], s)
		}
	}
}

func pick(r *rand.Rand, l []string) string { return l[r.Intn(len(l))] }

// sortOf tells what a question finds; a hiding field has the name of one above.
func sortOf(w []api.Class, class, name string) string {
	owner, _, err := find.Field(w, class, name)
	switch {
	case err == api.ErrNone:
		return "nothing"
	case err != nil:
		return "an error"
	case owner != class:
		return "above"
	}
	i := slices.IndexFunc(w, func(c api.Class) bool { return c.Name == class })
	if _, _, err := find.Field(w, w[i].Super, name); err == nil {
		return "hiding"
	}
	return "its own"
}

// some has classes that extend those before them, until the list is shuffled.
// Few names serve, so that the same ones have other places in other lists.
func some(r *rand.Rand) []api.Class {
	var w []api.Class
	above := []string{"Object", "Fault"}
	for _, n := range r.Perm(10)[:r.Intn(11)] {
		c := api.Class{Name: string("ABCDabcd_Z"[n]), Super: above[len(above)-1], Face: r.Intn(8) == 0}
		if c.Face {
			c.Super = "Object"
		} else {
			if r.Intn(2) == 0 {
				c.Super = pick(r, above)
			}
			above = append(above, c.Name)
			for _, k := range r.Perm(4)[:r.Intn(5)] {
				c.Fields = append(c.Fields, fields("fghk"[k:k+1]+":"+pick(r, []string{"I", "J", "LA;", "L" + c.Name + ";", "[I"}))...)
			}
		}
		if r.Intn(60) == 0 {
			c.Super = pick(r, []string{"", "1", c.Name})
		}
		w = append(w, c)
	}
	r.Shuffle(len(w), func(i, k int) { w[i], w[k] = w[k], w[i] })
	return w
}

// roomy returns l with room behind its end, in which there is more.
func roomy[E any](l []E, more E) []E {
	return slices.Concat(l, []E{more, more})[:len(l)]
}

// TestUnchanged gives lists with room behind their ends, because an append
// within the package would write there (rule P2).
func TestUnchanged(t *testing.T) {
	w := roomy(whole(), api.Class{Name: "Kept"})
	for i, c := range w {
		w[i].Faces = roomy(c.Faces, "Kept")
		w[i].Fields = roomy(c.Fields, api.Field{Name: "Kept"})
		w[i].Methods = roomy(c.Methods, api.Method{Name: "Kept"})
		for k, m := range w[i].Methods {
			w[i].Methods[k].Code = roomy(m.Code, api.Ins{Name: "Kept"})
			w[i].Methods[k].Handlers = roomy(m.Handlers, api.Handler{Class: "Kept"})
		}
	}
	kept := withRoom(w)
	expectResults(t, w, wholeResults())
	expectError(t, w, noNames(), noNames(), api.ErrNone)
	if now := withRoom(w); now != kept {
		t.Errorf("the classes %s have been changed to %s", kept, now)
	}
	for _, x := range flaws("X") {
		w := append(listed("class Z Object f:I g:J | class A Z F f:J | face F Object"), x.c)
		kept := withRoom(w)
		expectFlawed(t, w, x.want)
		if now := withRoom(w); now != kept {
			t.Errorf("the classes %s have been changed to %s", kept, now)
		}
	}
}

// withRoom writes a list and all lists in it to the ends of their memory.
func withRoom(w []api.Class) string {
	s := fmt.Sprintf("%+v", w[:cap(w)])
	for _, c := range w {
		s += fmt.Sprintf("%+v", c.Faces[:cap(c.Faces)]) + fmt.Sprintf("%+v", c.Fields[:cap(c.Fields)]) + fmt.Sprintf("%+v", c.Methods[:cap(c.Methods)])
		for _, m := range c.Methods {
			s += fmt.Sprintf("%+v", m.Code[:cap(m.Code)]) + fmt.Sprintf("%+v", m.Handlers[:cap(m.Handlers)])
		}
	}
	return s
}

// TestOwnResults overwrites all that was passed and all results but one, after
// which that one is as it was (rule P2).
func TestOwnResults(t *testing.T) {
	w := whole()
	var kept, others [][]string
	for _, class := range names(w) {
		for _, lists := range []*[][]string{&others, &kept, &others} {
			l, err := lay.Fields(w, class)
			if err != nil {
				t.Fatal(err)
			}
			*lists = append(*lists, l)
		}
	}
	before := fmt.Sprint(kept)
	for _, c := range w {
		clear(c.Fields)
	}
	clear(w)
	for _, l := range others {
		clear(l)
		_ = append(l, "other", "other")
	}
	if now := fmt.Sprint(kept); now != before {
		t.Errorf("the results %s have been changed to %s", before, now)
	}
	// Another list that is worked on in between does not matter either.
	expectResults(t, whole(), wholeResults())
	expectResults(t, listed("class A Object h:J | class C A g:LC;"), "C = J LC;, C g = 1, C h = 0, A = J")
	expectResults(t, whole(), wholeResults())
}

// TestOtherResults overwrites results, and appends to them, which changes neither
// the classes that were passed nor what comes next (rule P2).
func TestOtherResults(t *testing.T) {
	w := whole()
	kept := withRoom(w)
	for range 3 {
		for _, class := range names(w) {
			l, err := lay.Fields(w, class)
			if err != nil {
				t.Fatal(err)
			}
			for i := range l {
				l[i] = "other"
			}
			_ = append(l, "other", "other")
		}
		expectResults(t, w, wholeResults())
		if now := withRoom(w); now != kept {
			t.Errorf("the classes %s have been changed to %s", kept, now)
		}
	}
}

// TestOwnStrings has results that share no memory with what was passed or with
// each other (rule P2), which shows only in the addresses of strings.
func TestOwnStrings(t *testing.T) {
	used := map[*byte]string{}
	note := func(s, where string) {
		t.Helper()
		if other, ok := used[unsafe.StringData(s)]; ok {
			t.Errorf("%s of %s shares memory with %s", s, where, other)
		}
		used[unsafe.StringData(s)] = where
	}
	own := func(s, where string) string {
		s = strings.Clone(s)
		note(s, where)
		return s
	}
	w := whole()
	for i, c := range w {
		// The strings of whole are parts of constants, and may share their memory.
		w[i].Name, w[i].Super = own(c.Name, "a class"), own(c.Super, "a superclass")
		for k, f := range c.Fields {
			c.Fields[k] = api.Field{Name: own(f.Name, "a field"), Type: own(f.Type, "a field's type")}
		}
	}
	for range 2 {
		for _, class := range names(w) {
			l, err := lay.Fields(w, class)
			if err != nil {
				t.Fatal(err)
			}
			for _, s := range l {
				note(s, "a result")
			}
		}
	}
}

// TestLong has lists that must be decided in time (rule P1).
func TestLong(t *testing.T) {
	long := strings.Repeat("a", 1<<22)
	var many []string
	for i := range 1 << 16 {
		many = append(many, fmt.Sprint("n", i))
	}
	for _, e := range []struct {
		w    []api.Class
		want error
	}{
		{make([]api.Class, 1<<18), api.ErrFull},
		{[]api.Class{{Name: long, Super: "Object"}}, api.ErrForm},
		{[]api.Class{{Name: "A", Super: long}}, api.ErrForm},
		{[]api.Class{{Name: "A", Super: "Object", Faces: many}}, api.ErrFull},
		{[]api.Class{{Name: "A", Super: "Object", Fields: make([]api.Field, 1<<18)}}, api.ErrFull},
		{[]api.Class{{Name: "A", Super: "Object", Fields: []api.Field{{Name: "f", Type: long}}}}, api.ErrForm},
		{[]api.Class{{Name: "A", Super: "Object", Methods: make([]api.Method, 1<<18)}}, api.ErrFull},
	} {
		expectError(t, e.w, []string{"A", "Object", long}, []string{long, "f"}, e.want)
	}
	expectError(t, whole(), []string{long}, []string{long, "f"}, api.ErrNone)
	expectNoPlace(t, whole(), []string{"A", "Object"}, []string{long}, api.ErrNone)
}

func ExampleFields() {
	w := []api.Class{
		{Name: "A", Super: "Object", Fields: []api.Field{{Name: "f", Type: "I"}}},
		{Name: "B", Super: "A", Fields: []api.Field{{Name: "g", Type: "J"}, {Name: "f", Type: "LA;"}}},
	}
	fmt.Println(lay.Fields(w, "B"))
	fmt.Println(lay.Fields(w, "Object"))
	fmt.Println(lay.Fields(w, "C"))
	// Output:
	// [I J LA;] <nil>
	// [] <nil>
	// [] ErrNone
}

func ExamplePlace() {
	w := []api.Class{
		{Name: "A", Super: "Object", Fields: []api.Field{{Name: "f", Type: "I"}}},
		{Name: "B", Super: "A", Fields: []api.Field{{Name: "g", Type: "J"}, {Name: "f", Type: "LA;"}}},
	}
	fmt.Println(lay.Place(w, "A", "f"))
	fmt.Println(lay.Place(w, "B", "f"))
	fmt.Println(lay.Place(w, "A", "g"))
	// Output:
	// 0 <nil>
	// 2 <nil>
	// 0 ErrNone
}

// FuzzLay takes each class from four bytes, which give its name, its Super, its
// Faces and its fields.
func FuzzLay(f *testing.F) {
	f.Add([]byte{0, 8, 0, 1, 1, 0, 0, 2}, "B", "f")
	f.Add([]byte{0, 8, 0, 0x0b, 1, 0, 0, 0x16, 2, 1, 0, 0x21}, "C", "g")
	f.Add([]byte{0, 8, 0x20, 5, 0x85, 8, 0, 0, 1, 9, 0, 0x3f}, "B", "h")
	f.Fuzz(func(t *testing.T, b []byte, class, name string) {
		all := append(strings.Fields("A B C D E F G H Object Fault"), class, "None")
		var w []api.Class
		for ; len(b) >= 4 && len(w) < 12; b = b[4:] {
			c := api.Class{Name: all[int(b[0]&15)%len(all)], Super: all[int(b[1]&15)%len(all)], Face: b[0]&128 != 0}
			for i, s := range all[:8] {
				if b[2]&(1<<i) != 0 {
					c.Faces = append(c.Faces, s)
				}
			}
			for i, s := range []string{"f", "g", name} {
				if sort := b[3] >> (2 * i) & 3; sort != 0 {
					c.Fields = append(c.Fields, api.Field{Name: s, Type: []string{"", "I", "J", "L" + c.Name + ";"}[sort]})
				}
			}
			if b[3]&0x40 != 0 {
				slices.Reverse(c.Fields)
			}
			w = append(w, c)
		}
		for _, class := range append(all, "") {
			expectStatedFields(t, w, class)
			for _, name := range []string{"f", "g", name} {
				expectStatedPlace(t, w, class, name)
			}
		}
	})
}
