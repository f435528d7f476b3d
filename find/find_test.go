package find_test

import (
	"fmt"
	"maps"
	"math/rand"
	"slices"
	"strings"
	"testing"
	"unsafe"

	"coffeehouse/api"
	"coffeehouse/find"
	"coffeehouse/world"
)

const longest = "abcdefghijklmnopqrst" // a name of MaxName bytes

// listed returns the classes with the given texts, between which there are bars:
// class or face, the Name, the Super (- for an empty one), and then in any order
// the Faces, the fields, each with a colon before its type, and the methods.
func listed(s string) []api.Class {
	var w []api.Class
	for i, text := range strings.Split(s, " | ") {
		words := strings.Fields(text)
		c := api.Class{Face: words[0] == "face", Name: words[1], Super: strings.TrimPrefix(words[2], "-")}
		for _, word := range words[3:] {
			if strings.Contains(word, ":") {
				c.Fields = append(c.Fields, fields(word)...)
			} else if strings.Contains(word, "(") {
				c.Methods = append(c.Methods, method(word, 2+i%7))
			} else {
				c.Faces = append(c.Faces, word)
			}
		}
		w = append(w, c)
	}
	return w
}

// fields returns the fields with the texts, between which there are spaces.
func fields(s string) []api.Field {
	var l []api.Field
	for _, word := range strings.Fields(s) {
		name, kind, _ := strings.Cut(word, ":")
		l = append(l, api.Field{Name: name, Type: kind})
	}
	return l
}

// method returns the method with the text. Of the marks before its name, ? says
// that it is abstract, = that it is static, and - that it is private.
func method(s string, locals int) api.Method {
	text := strings.TrimLeft(s, "?=-")
	name, kind := parts(text)
	m := api.Method{Name: name, Type: kind, Locals: locals}
	for _, mark := range s[:len(s)-len(text)] {
		m.Abstract = m.Abstract || mark == '?'
		m.Static = m.Static || mark == '='
		m.Private = m.Private || mark == '-'
	}
	if !m.Abstract {
		m.Code = append(slices.Repeat([]api.Ins{{Op: api.Nop}}, locals%3), api.Ins{Op: api.Return})
		m.Handlers = []api.Handler{{To: 1, At: locals % 3, Class: "Fault"}}
	}
	return m
}

// parts returns the name and the type in the text of a method.
func parts(s string) (name, kind string) {
	at := strings.Index(s+"(", "(")
	return s[:at], s[at:]
}

func isZero(m api.Method) bool {
	return fmt.Sprintf("%+v", m) == fmt.Sprintf("%+v", api.Method{})
}

// methodText is the reverse of method.
func methodText(m api.Method) string {
	s := ""
	if m.Abstract {
		s += "?"
	}
	if m.Static {
		s += "="
	}
	if m.Private {
		s += "-"
	}
	s += m.Name + m.Type
	if len(m.Code)+len(m.Handlers) > 0 {
		s += " with code"
	}
	return s
}

// told has a result in one text. With an error the other results must be zero,
// and it must be an api.Errno itself and not wrap one (rule P3).
func told(class, member string, zero bool, err error) string {
	if err == nil {
		return class + " " + member
	}
	if e, ok := err.(api.Errno); ok && class == "" && zero {
		return e.Error()
	}
	return fmt.Sprintf("%T(%v) with %q and %q", err, err, class, member)
}

// show writes a list in few words, even if it is long.
func show(w []api.Class) string {
	s := fmt.Sprintf("%+v", w)
	return s[:min(len(s), 1500)]
}

// expectField has the result of Field as a text: a class and one of its fields,
// or an error. What statedField says must be the same, so that the results that
// the tests give by hand confirm it.
func expectField(t *testing.T, w []api.Class, class, name, want string) {
	t.Helper()
	c, f, err := find.Field(w, class, name)
	if got := told(c, f.Name+":"+f.Type, f == api.Field{}, err); got != want {
		t.Fatalf("Field(%s, %q, %q) = %s, want %s", show(w), class, name, got, want)
	}
	expectStatedField(t, w, class, name)
}

// expectMethod does the same for Method, and asks for a name and type in one
// text.
func expectMethod(t *testing.T, w []api.Class, class, asked, want string) {
	t.Helper()
	name, kind := parts(asked)
	c, m, err := find.Method(w, class, name, kind)
	if got := told(c, methodText(m), isZero(m), err); got != want {
		t.Fatalf("Method(%s, %q, %q, %q) = %s, want %s", show(w), class, name, kind, got, want)
	}
	expectStatedMethod(t, w, class, name, kind)
}

func expectStatedField(t *testing.T, w []api.Class, class, name string) {
	t.Helper()
	c, f, err := find.Field(w, class, name)
	sc, sf, serr := statedField(w, class, name)
	if c != sc || f != sf || err != serr {
		t.Fatalf("Field(%s, %q, %q) = %q, %+v, %v, want %q, %+v, %v", show(w), class, name, c, f, err, sc, sf, serr)
	}
}

func expectStatedMethod(t *testing.T, w []api.Class, class, name, kind string) {
	t.Helper()
	c, m, err := find.Method(w, class, name, kind)
	sc, sm, serr := statedMethod(w, class, name, kind)
	got, want := fmt.Sprintf("%q, %+v, %#v", c, m, err), fmt.Sprintf("%q, %+v, %#v", sc, sm, serr)
	if got != want {
		t.Fatalf("Method(%s, %q, %q, %q) = %s, want %s", show(w), class, name, kind, got, want)
	}
}

// expectError has an error of both functions, for each class, name and type.
func expectError(t *testing.T, w []api.Class, classes, names, kinds []string, want error) {
	t.Helper()
	for _, class := range classes {
		for _, name := range names {
			if c, f, err := find.Field(w, class, name); c != "" || f != (api.Field{}) || err != want {
				t.Fatalf("Field(%s, %q, %q) = %q, %+v, %v, want %v alone", show(w), class, name, c, f, err, want)
			}
			for _, kind := range kinds {
				if c, m, err := find.Method(w, class, name, kind); c != "" || !isZero(m) || err != want {
					t.Fatalf("Method(%s, %q, %q, %q) = %q, %+v, %v, want %v alone", show(w), class, name, kind, c, m, err, want)
				}
			}
		}
	}
}

// statedField says what FI1 says, going from the field to the classes.
func statedField(w []api.Class, class, name string) (string, api.Field, error) {
	supers, err := world.Supers(w, class)
	if err != nil {
		return "", api.Field{}, err
	}
	at := len(supers)
	var field api.Field
	for _, c := range w {
		for _, f := range c.Fields {
			if i := slices.Index(supers, c.Name); f.Name == name && i >= 0 && i < at {
				at, field = i, f
			}
		}
	}
	if at == len(supers) {
		return "", api.Field{}, api.ErrNone
	}
	return supers[at], field, nil
}

// statedMethod says what FI1 says by giving each method that could be meant a
// place in one order, of which it takes the first one.
func statedMethod(w []api.Class, class, name, kind string) (string, api.Method, error) {
	supers, err := world.Supers(w, class)
	if err != nil {
		return "", api.Method{}, err
	}
	all, err := world.All(w, class)
	if err != nil {
		return "", api.Method{}, err
	}
	places := map[string]api.Method{}
	for _, c := range w {
		for _, m := range c.Methods {
			m.Code, m.Handlers = nil, nil
			at := slices.Index(supers, c.Name)
			switch {
			case m.Name != name || m.Type != kind || !slices.Contains(all, c.Name):
			case at >= 0:
				places[fmt.Sprintf("1%02d ", at)+c.Name] = m
			case c.Face && !m.Abstract:
				places["2 "+c.Name] = m
			case c.Face:
				places["3 "+c.Name] = m
			}
		}
	}
	if len(places) == 0 {
		return "", api.Method{}, api.ErrNone
	}
	first := slices.Min(slices.Collect(maps.Keys(places)))
	return strings.Fields(first)[1], places[first], nil
}

// names returns the classes that are there.
func names(w []api.Class) []string {
	l := []string{"Object", "Fault"}
	for _, c := range w {
		l = append(l, c.Name)
	}
	return l
}

// inEachOrder calls f with w in every order.
func inEachOrder(w []api.Class, f func(w []api.Class)) {
	var fill func(n int)
	fill = func(n int) {
		if n == len(w) {
			f(w)
			return
		}
		for i := n; i < len(w); i++ {
			w[n], w[i] = w[i], w[n]
			fill(n + 1)
			w[n], w[i] = w[i], w[n]
		}
	}
	fill(0)
}

// hand has classes and results that are written by hand, as in "B f = A f:I,
// B g = ErrNone" or "B m()V = A m()V".
type hand struct{ classes, results string }

// expectHand has the results for the classes in every order.
func expectHand(t *testing.T, h hand) {
	t.Helper()
	inEachOrder(listed(h.classes), func(w []api.Class) { expectResults(t, w, h.results) })
}

func expectResults(t *testing.T, w []api.Class, results string) {
	t.Helper()
	for _, text := range strings.Split(results, ", ") {
		question, want, _ := strings.Cut(text, " = ")
		class, asked, _ := strings.Cut(question, " ")
		if strings.Contains(asked, "(") {
			expectMethod(t, w, class, asked, want)
		} else {
			expectField(t, w, class, asked, want)
		}
	}
}

func expectHands(t *testing.T, l map[string]hand) {
	for what, h := range l {
		t.Run(what, func(t *testing.T) { expectHand(t, h) })
	}
}

// TestFields has what FI1 says of fields.
func TestFields(t *testing.T) {
	expectHands(t, map[string]hand{
		"its own": {"class A Object f:I g:J h:LA; k:[[LNone;",
			"A f = A f:I, A g = A g:J, A h = A h:LA;, A k = A k:[[LNone;, A m = ErrNone"},
		"the superclass's": {"class A Object f:I g:J | class B A h:I",
			"B f = A f:I, B g = A g:J, B h = B h:I, A h = ErrNone"},
		"further up": {"class A Object f:J | class B A | class C B | class D C g:I",
			"D f = A f:J, C f = A f:J, B f = A f:J, A f = A f:J, C g = ErrNone, B g = ErrNone, A g = ErrNone"},
		"two of a name": {"class A Object f:I g:I | class B A f:J",
			"B f = B f:J, A f = A f:I, B g = A g:I"},
		"three of a name": {"class A Object f:I g:I | class B A f:J g:[I | class C B f:LC; | class D C",
			"D f = C f:LC;, C f = C f:LC;, B f = B f:J, A f = A f:I, D g = B g:[I, C g = B g:[I"},
		"the same type": {"class A Object f:I | class B A f:I | class C B",
			"A f = A f:I, B f = B f:I, C f = B f:I"},
		"names out of order": {"class Z Object f:I | class M Z f:J | class A M | class a A f:[I | class _ a",
			"_ f = a f:[I, a f = a f:[I, A f = M f:J, M f = M f:J, Z f = Z f:I"},
		"an interface's": {"class A Object F | face F Object G f()V g()V | face G Object h()V | class B A G",
			"A f = ErrNone, A g = ErrNone, A h = ErrNone, B f = ErrNone, B h = ErrNone, F f = ErrNone, F g = ErrNone, F h = ErrNone, G h = ErrNone"},
		"of interfaces": {"class A Object F f:I | face F Object G | face G Object",
			"A f = A f:I, F f = ErrNone, G f = ErrNone"},
		"methods": {"class A Object f()I g()V | class B A g:J h()V =k()V ?n()V",
			"A f = ErrNone, A g = ErrNone, B f = ErrNone, B g = B g:J, B h = ErrNone, B k = ErrNone, B n = ErrNone"},
		"another class's": {"class A Object f:I | class B A g:I | class C A h:I | class D Object k:I a:LA;",
			"A g = ErrNone, A h = ErrNone, A k = ErrNone, B h = ErrNone, C g = ErrNone, B k = ErrNone, D f = ErrNone, D g = ErrNone, A a = ErrNone"},
		"Object and Fault": {"class A Object f:I | class E Fault g:I | class D E h:J",
			"Object f = ErrNone, Object g = ErrNone, Fault f = ErrNone, Fault g = ErrNone, Fault h = ErrNone, D g = E g:I, D h = D h:J, E g = E g:I, D f = ErrNone, E h = ErrNone"},
		"similar names": {"class A Object f:I F:J ff:[I f_:[J _:LA; | class a Object f1:I",
			"A f = A f:I, A F = A F:J, A ff = A ff:[I, A f_ = A f_:[J, A _ = A _:LA;, A fF = ErrNone, A FF = ErrNone, A f1 = ErrNone, A __ = ErrNone, a f = ErrNone, a f1 = a f1:I"},
		"names of classes": {"class A Object B:I Object:J | class B A A:LB;",
			"A B = A B:I, A A = ErrNone, A Object = A Object:J, B Object = A Object:J, B A = B A:LB;, Object Object = ErrNone"},
		"eight fields": {"class A Object a:I b:J c:LA; d:[I e:[J f:[LA; g:[[I h:[[[LObject; | class B A h:I g:J",
			"A a = A a:I, A b = A b:J, A c = A c:LA;, A d = A d:[I, A e = A e:[J, A f = A f:[LA;, A g = A g:[[I, A h = A h:[[[LObject;, B a = A a:I, B f = A f:[LA;, B g = B g:J, B h = B h:I"},
		"the longest name": {"class " + longest + " Object " + longest + ":L" + longest + "; | class A " + longest,
			"A " + longest + " = " + longest + " " + longest + ":L" + longest + ";, A " + longest[1:] + " = ErrNone"},
	})
}

// TestMethodsOfSupers has what FI1 says of the methods of classes.
func TestMethodsOfSupers(t *testing.T) {
	expectHands(t, map[string]hand{
		"its own": {"class A Object m()V n(I)J =k()I -p()V ?q()V",
			"A m()V = A m()V, A n(I)J = A n(I)J, A k()I = A =k()I, A p()V = A -p()V, A q()V = A ?q()V, A r()V = ErrNone"},
		"the superclass's": {"class A Object m()V ?q()V | class B A n()V",
			"B m()V = A m()V, B q()V = A ?q()V, B n()V = B n()V, A n()V = ErrNone"},
		"further up": {"class A Object m()V =k()V | class B A | class C B | class D C",
			"D m()V = A m()V, C m()V = A m()V, B m()V = A m()V, D k()V = A =k()V"},
		"another type": {"class A Object m()V m(I)V m()I n()V | class B A m(J)V n()J",
			"A m()V = A m()V, A m(I)V = A m(I)V, A m()I = A m()I, A m(J)V = ErrNone, A m()J = ErrNone, A n()J = ErrNone, B m(J)V = B m(J)V, B m()V = A m()V, B m(I)V = A m(I)V, B n()J = B n()J, B n()V = A n()V, B n()I = ErrNone"},
		"another name": {"class A Object m()V mm()V M()V | class B A m_()V",
			"B m()V = A m()V, B mm()V = A mm()V, B M()V = A M()V, B m_()V = B m_()V, B mM()V = ErrNone, A m_()V = ErrNone, B n()V = ErrNone"},
		"similar types": {"class A Object m(LA;)V m([LA;)V m([[LA;)V m([I)V m(LB;)V",
			"A m(LA;)V = A m(LA;)V, A m([LA;)V = A m([LA;)V, A m([[LA;)V = A m([[LA;)V, A m([I)V = A m([I)V, A m(LB;)V = A m(LB;)V, A m(I)V = ErrNone, A m(LObject;)V = ErrNone, A m([[[LA;)V = ErrNone, A m(LA;LA;)V = ErrNone, A m(La;)V = ErrNone"},
		"fields": {"class A Object m:I n:LA; n()V | class B A n:I",
			"A m()V = ErrNone, A m()I = ErrNone, B m()I = ErrNone, B n()V = A n()V, B n()I = ErrNone"},
		"another class's": {"class A Object m()V | class B A n()V | class C A =k()V | class D Object p()V",
			"A n()V = ErrNone, A k()V = ErrNone, A p()V = ErrNone, B k()V = ErrNone, C n()V = ErrNone, B p()V = ErrNone, D m()V = ErrNone, C m()V = A m()V"},
		"Object and Fault": {"class A Object m()V | class E Fault n()V | class D E | face F Object k()V",
			"Object m()V = ErrNone, Object n()V = ErrNone, Object k()V = ErrNone, Fault m()V = ErrNone, Fault n()V = ErrNone, Fault k()V = ErrNone, D n()V = E n()V, D m()V = ErrNone, E k()V = ErrNone"},
		"names out of order": {"class Z Object m()V | class M Z ?m()V | class A M | class a A =m()V | class _ a",
			"_ m()V = a =m()V, a m()V = a =m()V, A m()V = M ?m()V, M m()V = M ?m()V, Z m()V = Z m()V"},
		"eight methods": {"class A Object a()V a(I)V b()V b(I)V c()V c(I)V d()V d(I)V | class B A d(I)V =a()V",
			"A a()V = A a()V, A a(I)V = A a(I)V, A b(I)V = A b(I)V, A c()V = A c()V, A d()V = A d()V, A d(I)V = A d(I)V, B a()V = B =a()V, B d(I)V = B d(I)V, B d()V = A d()V, B c(I)V = A c(I)V, B d(J)V = ErrNone"},
		"the longest name": {"class " + longest + " Object " + longest + "()L" + longest + "; | class A " + longest,
			"A " + longest + "()L" + longest + "; = " + longest + " " + longest + "()L" + longest + ";, A " + longest[1:] + "()L" + longest + "; = ErrNone"},
	})
}

// marks are all that a valid method may be.
func marks() []string { return []string{"", "?", "=", "-", "=-"} }

// TestMarks has a method of each sort in a class and above it, and in interfaces.
func TestMarks(t *testing.T) {
	for _, a := range marks() {
		expectHand(t, hand{"class A Object " + a + "m()V | class B A | class C B F | face F Object m()V",
			"C m()V = A " + a + "m()V, B m()V = A " + a + "m()V, A m()V = A " + a + "m()V, F m()V = F m()V"})
		expectHand(t, hand{"class A Object F | class B A | face F Object G | face G Object " + a + "m()V",
			"A m()V = G " + a + "m()V, B m()V = G " + a + "m()V, F m()V = G " + a + "m()V, G m()V = G " + a + "m()V"})
		for _, b := range marks() {
			expectHand(t, hand{"class A Object " + a + "m()V | class B A F " + b + "m()V | class C B | face F Object m()V",
				"C m()V = B " + b + "m()V, B m()V = B " + b + "m()V, A m()V = A " + a + "m()V"})
			want := "F " + a
			if a == "?" && b != "?" {
				want = "G " + b
			}
			expectHand(t, hand{"class A Object F G | class B A | face F Object " + a + "m()V | face G Object " + b + "m()V",
				"A m()V = " + want + "m()V, B m()V = " + want + "m()V, F m()V = F " + a + "m()V, G m()V = G " + b + "m()V"})
		}
	}
}

// TestMethodsOfFaces has what FI1 says of the methods of interfaces.
func TestMethodsOfFaces(t *testing.T) {
	expectHands(t, map[string]hand{
		"of the class": {"class A Object F | face F Object m()V ?n()V",
			"A m()V = F m()V, A n()V = F ?n()V, A k()V = ErrNone"},
		"of a class above": {"class A Object F | class B A | class C B | face F Object m()V ?n()V",
			"C m()V = F m()V, C n()V = F ?n()V, B m()V = F m()V, A m()V = F m()V"},
		"of an interface": {"class A Object F | class B A | face F Object G | face G Object H | face H Object m()V ?n()V",
			"B m()V = H m()V, A m()V = H m()V, A n()V = H ?n()V, F m()V = H m()V, F n()V = H ?n()V, G m()V = H m()V, H m()V = H m()V"},
		"not a class's": {"class A Object F | class B A | face F Object m()V | face G Object n()V | class C Object G",
			"A n()V = ErrNone, B n()V = ErrNone, C m()V = ErrNone, C n()V = G n()V, F n()V = ErrNone, G m()V = ErrNone"},
		"below an interface": {"class A Object F m()V | face F Object | face G Object F n()V",
			"F m()V = ErrNone, F n()V = ErrNone, A n()V = ErrNone, G n()V = G n()V, G m()V = ErrNone"},
		"another type": {"class A Object F G | face F Object m()V m(I)V ?n()I | face G Object m()V m(J)V n()V",
			"A m()V = F m()V, A m(I)V = F m(I)V, A m(J)V = G m(J)V, A m()I = ErrNone, A n()I = F ?n()I, A n()V = G n()V"},
		"another type below": {"class A Object F m(I)V | class B A m(J)V | face F Object m()V m(I)V",
			"B m()V = F m()V, B m(I)V = A m(I)V, B m(J)V = B m(J)V, A m(J)V = ErrNone"},
		"two with code": {"class A Object G F | face F Object m()V | face G Object m()V",
			"A m()V = F m()V"},
		"an abstract one first": {"class A Object F G H | face F Object ?m()V | face G Object m()V | face H Object m()V",
			"A m()V = G m()V"},
		"two abstract ones first": {"class A Object F G H | face F Object ?m()V | face G Object ?m()V | face H Object m()V",
			"A m()V = H m()V"},
		"an abstract one between": {"class A Object F G H | face F Object m()V | face G Object ?m()V | face H Object m()V",
			"A m()V = F m()V"},
		"all abstract": {"class A Object H G F | face F Object ?m()V | face G Object ?m()V | face H Object ?m()V",
			"A m()V = F ?m()V"},
		"first but without it": {"class A Object F G H | face F Object n()V | face G Object ?m()V | face H Object ?m()V",
			"A m()V = G ?m()V, A n()V = F n()V"},
		"the nearer one later": {"class A Object H | face H Object m()V G | face G Object m()V F | face F Object m()V",
			"A m()V = F m()V, H m()V = H m()V, G m()V = G m()V, F m()V = F m()V"},
		"the nearer class later": {"class A Object F | class B A G | face F Object m()V | face G Object m()V",
			"B m()V = F m()V, A m()V = F m()V"},
		"static and private": {"class A Object F G | face F Object ?m()V =n()V | face G Object -m()V n()V",
			"A m()V = G -m()V, A n()V = F =n()V"},
		"bytewise order": {"class x Object b_ b1 bA ba B | face b_ Object m()V ?k()V | face b1 Object m()V n()V p()V | face bA Object m()V n()V k()V | face ba Object m()V n()V k()V p()V | face B Object m()V ?p()V",
			"x m()V = B m()V, x n()V = b1 n()V, x k()V = bA k()V, x p()V = b1 p()V"},
		"capitals and others": {"class x Object a Z _ | face a Object m()V n()V | face Z Object m()V | face _ Object m()V n()V",
			"x m()V = Z m()V, x n()V = _ n()V"},
		"shorter names first": {"class x Object aaa aa a | face a Object ?m()V n()V ?k()V | face aa Object m()V ?n()V ?k()V | face aaa Object m()V n()V ?k()V",
			"x m()V = aa m()V, x n()V = a n()V, x k()V = a ?k()V"},
		"no matter how long": {"class x Object b abc | face b Object m()V ?n()V ?k()V | face abc Object m()V ?n()V k()V | face ab Object m()V | class y x ab",
			"x m()V = abc m()V, x n()V = abc ?n()V, x k()V = abc k()V, y m()V = ab m()V"},
		"of an exception": {"class E Fault F | class D E | face F Object G m()V | face G Object ?n()V",
			"D m()V = F m()V, D n()V = G ?n()V, E m()V = F m()V, Fault m()V = ErrNone"},
	})
}

// TestSupersFirst has methods of classes and of interfaces.
func TestSupersFirst(t *testing.T) {
	expectHands(t, map[string]hand{
		"its own": {"class Z Object F m()V ?n()V =k()V -p()V | face F Object m()V n()V k()V p()V",
			"Z m()V = Z m()V, Z n()V = Z ?n()V, Z k()V = Z =k()V, Z p()V = Z -p()V"},
		"the superclass's": {"class Z Object m()V ?n()V =k()V -p()V | class Y Z F | face F Object m()V n()V k()V p()V",
			"Y m()V = Z m()V, Y n()V = Z ?n()V, Y k()V = Z =k()V, Y p()V = Z -p()V"},
		"further up": {"class Z Object m()V ?n()V | class Y Z F | class X Y G | face F Object m()V n()V | face G Object m()V n()V",
			"X m()V = Z m()V, X n()V = Z ?n()V, Y m()V = Z m()V, Y n()V = Z ?n()V"},
		"an abstract one before one with code": {"class Z Object m()V | class Y Z ?m()V | class X Y F | face F Object m()V",
			"X m()V = Y ?m()V, Y m()V = Y ?m()V, Z m()V = Z m()V"},
		"interfaces of the classes": {"class A Object F m()V | class B A G n()V | face F Object n()V ?k()V | face G Object m()V k()V",
			"B m()V = A m()V, B n()V = B n()V, B k()V = G k()V, A n()V = F n()V, A k()V = F ?k()V"},
	})
}

// TestOfFaces asks for the methods of interfaces themselves.
func TestOfFaces(t *testing.T) {
	expectHands(t, map[string]hand{
		"their own": {"face F Object m()V ?n()V =k()V -p()V",
			"F m()V = F m()V, F n()V = F ?n()V, F k()V = F =k()V, F p()V = F -p()V, F q()V = ErrNone"},
		"inherited": {"face F Object G | face G Object H n()V ?k()V | face H Object m()V k()V",
			"F m()V = H m()V, F n()V = G n()V, F k()V = H k()V, G k()V = G ?k()V, H n()V = ErrNone"},
		"their own first": {"face Z Object A B ?m()V n()V | face A Object m()V n()V | face B Object m()V ?n()V",
			"Z m()V = Z ?m()V, Z n()V = Z n()V, A m()V = A m()V, B n()V = B ?n()V"},
		"several": {"face F Object B A C | face A Object ?m()V ?n()V | face B Object m()V ?n()V | face C Object m()V ?n()V",
			"F m()V = B m()V, F n()V = A ?n()V"},
		"not those of classes": {"face F Object | class A Object F m()V | class B A n()V",
			"F m()V = ErrNone, F n()V = ErrNone"},
	})
}

// everywhere has the classes of TestEverywhere, with places for the names of
// interfaces and, where m stands, for methods.
const everywhere = "class C B %[1]s m | class B A m | class A Object %[2]s m | face %[1]s Object %[3]s m | face %[2]s Object m | face %[3]s Object m"

// TestEverywhere has a method, an abstract method, or none in each of three
// classes and three interfaces, with the names of the interfaces in each order.
func TestEverywhere(t *testing.T) {
	sorts := []string{"", "m()V", "?m()V"}
	inEachOrder(listed("face F Object | face G Object | face H Object"), func(l []api.Class) {
		text := fmt.Sprintf(everywhere, l[0].Name, l[1].Name, l[2].Name)
		for n := range 729 {
			s := text
			for k := n + 729; k > 1; k /= 3 {
				s = strings.Replace(s, " m", " "+sorts[k%3]+" ", 1)
			}
			w := listed(s)
			for _, class := range names(w) {
				expectStatedMethod(t, w, class, "m", "()V")
			}
		}
	})
}

// TestWholeMethod has each part of a method that is returned, and of one that is
// not.
func TestWholeMethod(t *testing.T) {
	code := []api.Ins{{Op: api.Push, A: 5, Type: "I"}, {Op: api.Give}}
	handlers := []api.Handler{{To: 1, At: 1, Class: "Fault"}, {To: 2, At: 0, Class: "Object"}}
	methods := []api.Method{
		{Name: "a", Type: "(IJLA;[I[[LF;)I", Locals: 6, Code: code, Handlers: handlers},
		{Name: "b", Type: "(IJLA;[I[[LF;)LA;", Static: true, Locals: 5, Code: code},
		{Name: "c", Type: "()J", Private: true, Locals: 8, Code: code, Handlers: handlers[:1]},
		{Name: "d", Type: "()V", Private: true, Static: true, Code: code[1:]},
		{Name: "e", Type: "(LF;)[[[LF;", Abstract: true},
		{Name: "f", Type: "(LF;)V", Abstract: true, Locals: 8},
		{Name: "g", Type: "()[I", Locals: 7, Code: code},
		{Name: "h", Type: "(J)LNone;", Locals: 3, Code: code},
	}
	for _, w := range [][]api.Class{
		{{Name: "A", Super: "Object", Methods: methods}, {Name: "B", Super: "A"}},
		{{Name: "B", Super: "Object", Faces: []string{"A"}}, {Name: "A", Super: "Object", Face: true, Methods: methods}},
	} {
		for _, want := range methods {
			want.Code, want.Handlers = nil, nil
			for _, class := range []string{"A", "B"} {
				c, m, err := find.Method(w, class, want.Name, want.Type)
				if got := fmt.Sprintf("%+v", m); c != "A" || err != nil || got != fmt.Sprintf("%+v", want) {
					t.Errorf("Method of %s and %s = %q, %s, %v, want A, %+v", class, want.Name, c, got, err, want)
				}
				if len(m.Code) != 0 || len(m.Handlers) != 0 {
					t.Errorf("Method of %s and %s has %d instructions and %d handlers", class, want.Name, len(m.Code), len(m.Handlers))
				}
				expectStatedMethod(t, w, class, want.Name, "()I")
			}
		}
	}
}

// TestWholeField has each part of a field that is returned.
func TestWholeField(t *testing.T) {
	all := []api.Field{{Name: "a", Type: "I"}, {Name: "b", Type: "J"}, {Name: "c", Type: "LA;"}, {Name: "d", Type: "[[[I"}, {Name: "e", Type: "[LNone;"}, {Name: "f", Type: "LObject;"}}
	w := []api.Class{{Name: "A", Super: "Fault", Fields: all}, {Name: "B", Super: "A"}}
	for _, want := range all {
		for _, class := range []string{"A", "B"} {
			if c, f, err := find.Field(w, class, want.Name); c != "A" || f != want || err != nil {
				t.Errorf("Field of %s and %s = %q, %+v, %v, want A, %+v, nil", class, want.Name, c, f, err, want)
			}
		}
	}
}

// TestMostClasses has a chain of MaxClasses classes, and a chain of as many
// interfaces, with a member at one end.
func TestMostClasses(t *testing.T) {
	chain := "class A Object f:J m()V | class B A | class C B | class D C | class E D | class F E | class G F | class H G | class K H | class M K g:I n()V"
	w := listed(chain)
	expectField(t, w, "M", "f", "A f:J")
	expectField(t, w, "M", "g", "M g:I")
	expectField(t, w, "K", "g", "ErrNone")
	expectMethod(t, w, "M", "m()V", "A m()V")
	expectMethod(t, w, "M", "n()V", "M n()V")
	expectMethod(t, w, "K", "n()V", "ErrNone")
	w = listed("class A Object B | face B Object C | face C Object D | face D Object E ?k()V | face E Object F | face F Object G | face G Object H | face H Object K | face K Object M | face M Object m()V ?n()V k()V")
	expectMethod(t, w, "A", "m()V", "M m()V")
	expectMethod(t, w, "A", "n()V", "M ?n()V")
	expectMethod(t, w, "A", "k()V", "M k()V")
	expectMethod(t, w, "B", "k()V", "M k()V")
	expectMethod(t, w, "D", "k()V", "D ?k()V")
	w = listed(chain + " | class X Object f:I m()V")
	expectError(t, w, append(names(w), "None"), []string{"f", "g", "m", "x"}, []string{"()V", "()I"}, api.ErrFull)
}

// whole has members of each sort.
func whole() []api.Class {
	return listed("class C B H f:[LC; m()V | class A Object F f:I g:J -p()V =s(I)V | class B A G g:LB; ?m()V s(I)V | class E Fault K e:I n()V | " +
		"face F Object k()V ?n()V q()I | face G Object F ?k()V n()V | face H Object K m(I)V | face K Object k()V n()V ?q()I")
}

// wholeResults has those of whole, in whatever order its classes are.
func wholeResults() string {
	return "A f = A f:I, B f = A f:I, C f = C f:[LC;, A g = A g:J, B g = B g:LB;, C g = B g:LB;, E e = E e:I, C e = ErrNone, E f = ErrNone, F f = ErrNone, " +
		"A m()V = ErrNone, B m()V = B ?m()V, C m()V = C m()V, C m(I)V = H m(I)V, B m(I)V = ErrNone, H m(I)V = H m(I)V, H m()V = ErrNone, " +
		"A p()V = A -p()V, C p()V = A -p()V, A s(I)V = A =s(I)V, B s(I)V = B s(I)V, C s(I)V = B s(I)V, C s()V = ErrNone, " +
		"A k()V = F k()V, B k()V = F k()V, C k()V = F k()V, G k()V = G ?k()V, H k()V = K k()V, E k()V = K k()V, " +
		"A n()V = F ?n()V, B n()V = G n()V, C n()V = G n()V, E n()V = E n()V, G n()V = G n()V, F n()V = F ?n()V, H n()V = K n()V, " +
		"A q()I = F q()I, C q()I = F q()I, G q()I = F q()I, H q()I = K ?q()I, E q()I = K ?q()I, Fault n()V = ErrNone, Object f = ErrNone"
}

// TestOrderOfClasses has the classes of whole in many orders, and their Faces,
// fields and methods in both.
func TestOrderOfClasses(t *testing.T) {
	r := rand.New(rand.NewSource(11))
	w := whole()
	for range 2 {
		for k := range w {
			expectResults(t, slices.Concat(w[k:], w[:k]), wholeResults())
		}
		for range 100 {
			r.Shuffle(len(w), func(i, k int) { w[i], w[k] = w[k], w[i] })
			expectResults(t, w, wholeResults())
		}
		for _, c := range w {
			slices.Reverse(c.Faces)
			slices.Reverse(c.Fields)
			slices.Reverse(c.Methods)
		}
	}
}

// TestNoClasses has only the classes that are always there.
func TestNoClasses(t *testing.T) {
	for _, w := range [][]api.Class{nil, {}} {
		expectError(t, w, []string{"Object", "Fault", "A", ""}, []string{"f", "m", "", "Object"}, []string{"()V", "(I)V", ""}, api.ErrNone)
	}
}

// noNames are in none of the lists of the tests: names of no class and of no
// member, and texts that are no names.
func noNames() []string {
	return []string{"", "None", "object", "Objec", "Objects", "fault", "a", "AA", "LA;", "[A", "1", "-", " ", "A ", " A", "f ", " f", "m ", "f\x00", "A\x00", "A.f", "F.m", "f:I",
		longest, longest + "u", "\xff", strings.Repeat("A", 1<<20)}
}

// TestNoClass has classes that do not exist, with members that others have and
// with those that none has.
func TestNoClass(t *testing.T) {
	expectError(t, whole(), noNames(), []string{"f", "g", "e", "m", "k", "n", "none", ""}, []string{"()V", "(I)V", "()I", "none", ""}, api.ErrNone)
}

// TestNoMember has members that no class has, of each class.
func TestNoMember(t *testing.T) {
	expectError(t, whole(), names(whole()), noNames(), []string{"()V", "(I)V", "()I", "I", ""}, api.ErrNone)
}

// TestNoType has methods with names that there are and types that there are not,
// or that are none.
func TestNoType(t *testing.T) {
	kinds := []string{"", "V", "()", "()J", "(J)V", "(I)I", "()V ", " ()V", "()VV", "()v", "(V)V", "(I)", "(I", "I", "(II)V", "()[I", "()LA;", "(LA;)V", "m()V", "()V\x00",
		"(IIIIII)V", "\xff", strings.Repeat("(", 1000), "()L" + strings.Repeat("A", 1<<20) + ";"}
	for _, class := range names(whole()) {
		for _, name := range []string{"m", "k", "n", "p", "q", "s"} {
			for _, kind := range kinds {
				if c, m, err := find.Method(whole(), class, name, kind); c != "" || !isZero(m) || err != api.ErrNone {
					t.Errorf("Method(whole, %q, %q, %q) = %q, %+v, %v, want ErrNone alone", class, name, kind, c, m, err)
				}
			}
		}
	}
}

// TestPartsElsewhere has names and types which, put together, are those of a
// method.
func TestPartsElsewhere(t *testing.T) {
	for _, class := range []string{"B", "C", "F", "H"} {
		for _, asked := range []string{"m()V", "m(I)V", "k()V", "n()V"} {
			for i := range len(asked) + 1 {
				if i < len(asked) && asked[i] == '(' {
					continue
				}
				if c, m, err := find.Method(whole(), class, asked[:i], asked[i:]); c != "" || !isZero(m) || err != api.ErrNone {
					t.Errorf("Method(whole, %q, %q, %q) = %q, %+v, %v, want ErrNone alone", class, asked[:i], asked[i:], c, m, err)
				}
			}
		}
	}
}

// flaw is a class that makes a list wrong, and the stage in which world.Check
// finds it: a single class or its name, what it names, and cycles.
type flaw struct {
	stage int
	c     api.Class
	want  error
}

func flaws(name string) []flaw {
	method := func(m api.Method) []api.Method {
		m.Name, m.Type = "m", "()V"
		return []api.Method{m}
	}
	abstract := api.Method{Name: "m", Type: "()V", Abstract: true}
	return []flaw{
		{1, api.Class{Super: "Object"}, api.ErrForm},
		{1, api.Class{Name: "1", Super: "Object"}, api.ErrForm},
		{1, api.Class{Name: name, Super: "LA;"}, api.ErrForm},
		{1, api.Class{Name: name, Super: "Object", Faces: []string{""}}, api.ErrForm},
		{1, api.Class{Name: name, Super: "Object", Faces: []string{"F", "F"}}, api.ErrTwice},
		{1, api.Class{Name: name, Super: "Object", Fields: make([]api.Field, 9)}, api.ErrFull},
		{1, api.Class{Name: name, Super: "Object", Fields: fields("f:V")}, api.ErrForm},
		{1, api.Class{Name: name, Super: "Object", Fields: fields("f:I f:J")}, api.ErrTwice},
		{1, api.Class{Name: name, Super: "Object", Methods: []api.Method{{Name: "m", Type: "V"}}}, api.ErrForm},
		{1, api.Class{Name: name, Super: "Object", Methods: []api.Method{abstract, abstract}}, api.ErrTwice},
		{1, api.Class{Name: name, Super: "Object", Methods: method(api.Method{Locals: 9})}, api.ErrRange},
		{1, api.Class{Name: name, Super: "Object", Methods: method(api.Method{Abstract: true, Static: true})}, api.ErrShape},
		{1, api.Class{Name: name, Super: "Object", Methods: method(api.Method{Code: []api.Ins{{Op: api.Return}}})}, api.ErrRange},
		{1, api.Class{Name: name, Super: "Object", Face: true, Fields: fields("f:I")}, api.ErrShape},
		{1, api.Class{Name: "Object", Super: "Object"}, api.ErrTwice},
		{1, api.Class{Name: "Fault", Super: "Object"}, api.ErrTwice},
		{1, api.Class{Name: "Z", Super: "Object"}, api.ErrTwice},
		{2, api.Class{Name: name}, api.ErrForm},
		{2, api.Class{Name: name, Super: "None"}, api.ErrNone},
		{2, api.Class{Name: name, Super: "Object", Faces: []string{"None"}}, api.ErrNone},
		{2, api.Class{Name: name, Super: "F"}, api.ErrType},
		{2, api.Class{Name: name, Super: "Object", Faces: []string{"A"}}, api.ErrType},
		{2, api.Class{Name: name, Super: "Fault", Face: true}, api.ErrType},
		{3, api.Class{Name: name, Super: name}, api.ErrRound},
		{3, api.Class{Name: name, Super: "Object", Faces: []string{name}, Face: true}, api.ErrRound},
	}
}

// expectFlawed has an error of world.Check for classes that are there and not,
// with members that they have and not.
func expectFlawed(t *testing.T, w []api.Class, want error) {
	t.Helper()
	if err := world.Check(w); err != want {
		t.Fatalf("world.Check(%s) = %v, want %v", show(w), err, want)
	}
	expectError(t, w, []string{"A", "B", "F", "X", "Y", "Object", "Fault", "None", ""}, []string{"f", "m", "n", "none", ""}, []string{"()V", "()J", ""}, want)
}

// TestWorldErrors has each error of world.Check alone and together with each
// other one and with all errors that come later, at both ends of the list.
func TestWorldErrors(t *testing.T) {
	right := func() []api.Class {
		return listed("class Z Object | class A Object F f:I m()V | class B A | face F Object n()V")
	}
	found := map[error]bool{api.ErrFull: true}
	for _, x := range flaws("X") {
		found[x.want] = true
		expectFlawed(t, append(right(), x.c), x.want)
		expectFlawed(t, slices.Insert(right(), 1, x.c), x.want)
		expectFlawed(t, append(right(), slices.Repeat([]api.Class{x.c}, 7)...), api.ErrFull)
		for _, y := range flaws("Y") {
			want := x.want
			if y.stage < x.stage {
				want = y.want
			}
			expectFlawed(t, append(right(), x.c, y.c), want)
			expectFlawed(t, slices.Insert(right(), 1, x.c, y.c), want)
		}
	}
	for _, want := range []error{api.ErrForm, api.ErrRange, api.ErrNone, api.ErrFull, api.ErrTwice, api.ErrRound, api.ErrType, api.ErrShape} {
		if !found[want] {
			t.Errorf("no list gives %v", want)
		}
	}
}

// TestManyLists has lists from a fixed seed, most of which are valid, one after
// another, so that nothing that is kept from an earlier one goes unnoticed.
func TestManyLists(t *testing.T) {
	r := rand.New(rand.NewSource(11))
	seen := map[string]int{}
	for range 3000 {
		w := some(r)
		kept := fmt.Sprintf("%#v", w)
		for range 20 {
			class := pick(r, append(names(w), "None"))
			expectStatedField(t, w, class, pick(r, []string{"f", "g", "m", "n"}))
			name, kind := parts(pick(r, []string{"m()V", "n()V", "m(I)V", "n(I)V"}))
			expectStatedMethod(t, w, class, name, kind)
			seen[sortOf(w, class, name, kind)]++
		}
		if now := fmt.Sprintf("%#v", w); now != kept {
			t.Fatalf("the list %s has been changed to %s", kept, now)
		}
	}
	for _, s := range []string{"its own", "a class", "a face", "an abstract face", "nothing", "an error"} {
		if seen[s] < 500 {
			t.Errorf("%d of 60000 results were %s", seen[s], s)
		}
	}
}

func pick(r *rand.Rand, l []string) string { return l[r.Intn(len(l))] }

// sortOf tells what a question finds.
func sortOf(w []api.Class, class, name, kind string) string {
	c, m, err := statedMethod(w, class, name, kind)
	i := slices.IndexFunc(w, func(x api.Class) bool { return x.Name == c })
	switch {
	case err == api.ErrNone:
		return "nothing"
	case err != nil:
		return "an error"
	case c == class:
		return "its own"
	case !w[i].Face:
		return "a class"
	case m.Abstract:
		return "an abstract face"
	}
	return "a face"
}

// some has classes that extend those before them, until the list is shuffled.
// Few names serve, so that the same ones have other places in other lists.
func some(r *rand.Rand) []api.Class {
	var w []api.Class
	classes, interfaces := []string{"Object", "Fault"}, []string{}
	for i, n := range r.Perm(10)[:r.Intn(11)] {
		c := api.Class{Name: string("ABCDabcd_Z"[n]), Super: "Object", Face: r.Intn(5) < 2}
		for _, s := range interfaces {
			if r.Intn(2) == 0 && len(c.Faces) < 8 {
				c.Faces = append(c.Faces, s)
			}
		}
		for _, s := range []string{"m()V", "n()V", "m(I)V"} {
			if r.Intn(3) == 0 {
				c.Methods = append(c.Methods, method(pick(r, append(marks(), "?", "?"))+s, 2+(i+n)%7))
			}
		}
		if c.Face {
			interfaces = append(interfaces, c.Name)
		} else {
			c.Super = pick(r, classes)
			classes = append(classes, c.Name)
			for _, s := range []string{"f", "g", "m"} {
				if r.Intn(4) == 0 {
					c.Fields = append(c.Fields, fields(s+":L"+c.Name+";")...)
				}
			}
		}
		if r.Intn(60) == 0 {
			c.Super = pick(r, []string{"", "1", c.Name})
		}
		w = append(w, c)
	}
	r.Shuffle(len(w), func(i, k int) { w[i], w[k] = w[k], w[i] })
	return w
}

// roomy returns l with room behind its end, in which there is more.
func roomy[E any](l []E, more E) []E {
	return slices.Concat(l, []E{more, more})[:len(l)]
}

// TestUnchanged gives lists with room behind their ends, because an append
// within the package would write there (rule P2).
func TestUnchanged(t *testing.T) {
	w := roomy(whole(), api.Class{Name: "Kept"})
	for i, c := range w {
		w[i].Faces = roomy(c.Faces, "Kept")
		w[i].Fields = roomy(c.Fields, api.Field{Name: "Kept"})
		w[i].Methods = roomy(c.Methods, api.Method{Name: "Kept"})
		for k, m := range w[i].Methods {
			w[i].Methods[k].Code = roomy(m.Code, api.Ins{Name: "Kept"})
			w[i].Methods[k].Handlers = roomy(m.Handlers, api.Handler{Class: "Kept"})
		}
	}
	kept := withRoom(w)
	expectResults(t, w, wholeResults())
	expectError(t, w, noNames(), noNames(), []string{"()V"}, api.ErrNone)
	if now := withRoom(w); now != kept {
		t.Errorf("the classes %s have been changed to %s", kept, now)
	}
	for _, x := range flaws("X") {
		w := append(listed("class Z Object m()V | class A Object F | face F Object"), x.c)
		kept := withRoom(w)
		expectFlawed(t, w, x.want)
		if now := withRoom(w); now != kept {
			t.Errorf("the classes %s have been changed to %s", kept, now)
		}
	}
}

// withRoom writes a list and all lists in it to the ends of their memory.
func withRoom(w []api.Class) string {
	s := fmt.Sprintf("%+v", w[:cap(w)])
	for _, c := range w {
		s += fmt.Sprintf("%+v", c.Faces[:cap(c.Faces)]) + fmt.Sprintf("%+v", c.Fields[:cap(c.Fields)]) + fmt.Sprintf("%+v", c.Methods[:cap(c.Methods)])
		for _, m := range c.Methods {
			s += fmt.Sprintf("%+v", m.Code[:cap(m.Code)]) + fmt.Sprintf("%+v", m.Handlers[:cap(m.Handlers)])
		}
	}
	return s
}

// TestOwnResults overwrites all that was passed, after which results are as they
// were (rule P2).
func TestOwnResults(t *testing.T) {
	w := whole()
	_, f, err := find.Field(w, "C", "g")
	if err != nil {
		t.Fatal(err)
	}
	c, m, err := find.Method(w, "C", "n", "()V")
	if err != nil {
		t.Fatal(err)
	}
	for _, c := range w {
		clear(c.Fields)
		for _, m := range c.Methods {
			clear(m.Code)
			clear(m.Handlers)
		}
		clear(c.Methods)
	}
	clear(w)
	want := method("n()V", 7)
	want.Code, want.Handlers = nil, nil
	if got := fmt.Sprintf("%+v", m); f != (api.Field{Name: "g", Type: "LB;"}) || c != "G" || got != fmt.Sprintf("%+v", want) {
		t.Errorf("the results have been changed to %+v and %q, %s", f, c, got)
	}
	// Another list that is worked on in between does not matter either.
	expectResults(t, whole(), wholeResults())
	expectField(t, listed("class C Object g:I"), "C", "g", "C g:I")
	expectMethod(t, listed("class C Object G | face G Object ?n()V"), "C", "n()V", "G ?n()V")
	expectResults(t, whole(), wholeResults())
}

// TestNoRoom appends to the empty lists of results, which would overwrite code
// that was passed if they were the beginning of it (rule P2).
func TestNoRoom(t *testing.T) {
	w := whole()
	kept := withRoom(w)
	for _, c := range w {
		for _, x := range c.Methods {
			_, m, err := find.Method(w, c.Name, x.Name, x.Type)
			if err != nil {
				t.Fatal(err)
			}
			_ = append(m.Code, api.Ins{Name: "other"})
			_ = append(m.Handlers, api.Handler{Class: "Other"})
		}
	}
	if now := withRoom(w); now != kept {
		t.Errorf("the classes %s have been changed to %s", kept, now)
	}
}

// TestOwnStrings has results that share no memory with what was passed or with
// each other (rule P2), which shows only in the addresses of strings.
func TestOwnStrings(t *testing.T) {
	used := map[*byte]string{}
	note := func(s, where string) {
		t.Helper()
		if s == "" {
			return
		}
		if other, ok := used[unsafe.StringData(s)]; ok {
			t.Errorf("%s of %s shares memory with %s", s, where, other)
		}
		used[unsafe.StringData(s)] = where
	}
	own := func(s, where string) string {
		s = strings.Clone(s)
		note(s, where)
		return s
	}
	w := whole()
	for i, c := range w {
		// The strings of whole are parts of constants, and may share their memory.
		w[i].Name, w[i].Super = own(c.Name, "a class"), own(c.Super, "a superclass")
		for k, s := range c.Faces {
			c.Faces[k] = own(s, "an interface")
		}
		for k, f := range c.Fields {
			c.Fields[k] = api.Field{Name: own(f.Name, "a field"), Type: own(f.Type, "a field's type")}
		}
		for k, m := range c.Methods {
			c.Methods[k].Name, c.Methods[k].Type = own(m.Name, "a method"), own(m.Type, "a method's type")
		}
	}
	for _, text := range strings.Split(wholeResults(), ", ") {
		question, _, _ := strings.Cut(text, " = ")
		words := strings.Fields(question)
		class := own(words[0], "a class that is asked")
		name, kind := parts(words[1])
		name, kind = own(name, "a name that is asked"), own(kind, "a type that is asked")
		c, f, _ := find.Field(w, class, name)
		note(c, "a field's class")
		note(f.Name, "a result's name")
		note(f.Type, "a result's type")
		c, m, _ := find.Method(w, class, name, kind)
		note(c, "a method's class")
		note(m.Name, "a result's name")
		note(m.Type, "a result's type")
	}
}

// TestLong has lists that must be decided in time (rule P1).
func TestLong(t *testing.T) {
	long := strings.Repeat("a", 1<<22)
	var many []string
	for i := range 1 << 16 {
		many = append(many, fmt.Sprint("n", i))
	}
	for _, e := range []struct {
		w    []api.Class
		want error
	}{
		{make([]api.Class, 1<<18), api.ErrFull},
		{[]api.Class{{Name: long, Super: "Object"}}, api.ErrForm},
		{[]api.Class{{Name: "A", Super: "Object", Faces: many}}, api.ErrFull},
		{[]api.Class{{Name: "A", Super: "Object", Fields: make([]api.Field, 1<<18)}}, api.ErrFull},
		{[]api.Class{{Name: "A", Super: "Object", Methods: make([]api.Method, 1<<18)}}, api.ErrFull},
		{whole(), api.ErrNone},
	} {
		expectError(t, e.w, []string{"A", "Object", long}, []string{long, "x"}, []string{long, "()V"}, e.want)
	}
}

func ExampleField() {
	w := []api.Class{{Name: "A", Super: "Object", Fields: []api.Field{{Name: "f", Type: "I"}}}, {Name: "B", Super: "A"}}
	fmt.Println(find.Field(w, "B", "f"))
	fmt.Println(find.Field(w, "B", "g"))
	// Output:
	// A {f I} <nil>
	//  { } ErrNone
}

func ExampleMethod() {
	m := api.Method{Name: "m", Type: "()V", Abstract: true}
	w := []api.Class{{Name: "A", Super: "Object", Faces: []string{"F"}}, {Name: "F", Super: "Object", Face: true, Methods: []api.Method{m}}}
	c, found, err := find.Method(w, "A", "m", "()V")
	fmt.Println(c, found.Name, found.Type, found.Abstract, err)
	_, _, err = find.Method(nil, "Object", "m", "()V")
	fmt.Println(err)
	// Output:
	// F m ()V true <nil>
	// ErrNone
}

// FuzzFind takes each class from six bytes, which give its name, its Super, its
// Faces, its fields and its methods.
func FuzzFind(f *testing.F) {
	f.Add([]byte{0, 8, 0, 0, 1, 1, 1, 0, 0, 0, 0, 0}, "A", "f", "()V")
	f.Add([]byte{0x85, 8, 0, 0, 0, 2, 0, 8, 0x20, 0, 0, 0, 1, 0, 0, 0, 0, 0}, "B", "m", "()V")
	f.Add([]byte{0x84, 8, 0, 0, 0, 8, 0x85, 8, 0, 0, 0, 2, 2, 8, 0x30, 0, 0, 0}, "C", "m", "()V")
	f.Fuzz(func(t *testing.T, b []byte, class, name, kind string) {
		all := append(strings.Fields("A B C D E F G H Object Fault"), class, "None")
		var w []api.Class
		for ; len(b) >= 6 && len(w) < 12; b = b[6:] {
			c := api.Class{Name: all[int(b[0]&15)%len(all)], Super: all[int(b[1]&15)%len(all)], Face: b[0]&128 != 0}
			for i, s := range all[:8] {
				if b[2]&(1<<i) != 0 {
					c.Faces = append(c.Faces, s)
				}
			}
			for i, s := range []string{"f", "g", name} {
				if b[4]&(1<<i) != 0 {
					c.Fields = append(c.Fields, api.Field{Name: s, Type: "I"})
				}
			}
			for i, s := range []string{"m()V", "n()V", name + kind} {
				if sort := b[5] >> (2 * i) & 3; sort != 0 {
					c.Methods = append(c.Methods, method([]string{"", "", "?", "="}[sort]+s, 2+int(b[3])%7))
				}
			}
			w = append(w, c)
		}
		expectFuzzed(t, w, append(all, ""), []string{"f", "m", name}, []string{"()V", kind})
	})
}

func expectFuzzed(t *testing.T, w []api.Class, classes, names, kinds []string) {
	t.Helper()
	for _, class := range classes {
		for _, name := range names {
			expectStatedField(t, w, class, name)
			for _, kind := range kinds {
				expectStatedMethod(t, w, class, name, kind)
			}
		}
	}
}
