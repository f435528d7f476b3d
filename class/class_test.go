package class_test

import (
	"fmt"
	"math"
	"math/rand"
	"reflect"
	"regexp"
	"slices"
	"strings"
	"testing"

	"coffeehouse/api"
	"coffeehouse/class"
	"coffeehouse/flow"
	"coffeehouse/ins"
)

const longest = "abcdefghijklmnopqrst" // a name of MaxName bytes

// The patterns state chapters 1 and 2 once more; the limits are written out as
// the chapters give them.
const (
	namePattern = `[A-Za-z_][A-Za-z0-9_]{0,19}`
	typePattern = `\[{0,3}(?:I|J|L` + namePattern + `;)`
)

var (
	nameShape   = regexp.MustCompile(`\A` + namePattern + `\z`)
	typeShape   = regexp.MustCompile(`\A` + typePattern + `\z`)
	methodShape = regexp.MustCompile(`\A\((?:` + typePattern + `){0,5}\)(?:V|` + typePattern + `)\z`)
	oneType     = regexp.MustCompile(typePattern)
)

// noNames does not include the empty string, which may be a Super.
func noNames() []string {
	return []string{
		"1", "1a", "a-b", "a b", " a", "a ", "a;", "LA;", "[I", "a/b", "a.b", "$", "<init>", "\x00", "a\x00", "\xff",
		"\u00e9", "a\n", longest + "u", strings.Repeat("a", 256),
	}
}

func noTypes() []string {
	return []string{
		"", "V", "i", "A", "L", "L;", "LA", "A;", "[", "[V", "[[[[I", "II", "IJ", "I ", " I", "L1;", "La b;", "LA;;",
		"L" + longest + "u;", "(I)V", "()V", "\xff",
	}
}

func noMethodTypes() []string {
	return []string{
		"", "I", "J", "V", "LA;", "[I", "(", "()", "(I", "(I)", "I)V", "(V)V", "()VV", "(I)[V", "([[[[I)V", "()[[[[I",
		"(IIIIII)V", "(JJJJJJ)J", "(LA)V", "(L1;)V", "()L;", "(I,I)V", "(I)V ", " ()V", "(I)(I)V", "()L" + longest + "u;",
		"\xff",
	}
}

// program returns the instructions with the given texts (chapter 4), between
// which there are semicolons.
func program(s string) []api.Ins {
	var l []api.Ins
	for _, text := range strings.Split(s, "; ") {
		x, err := ins.Parse(text)
		if err != nil {
			panic("no instruction: " + text)
		}
		l = append(l, x)
	}
	return l
}

// code is valid and has n instructions.
func code(n int) []api.Ins {
	l := slices.Repeat(program("nop"), n)
	l[n-1] = api.Ins{Op: api.Return}
	return l
}

// static is the simplest method that is not abstract.
func static(name, typ string, locals int) api.Method {
	return api.Method{Name: name, Type: typ, Static: true, Locals: locals, Code: program("return")}
}

func abstract(name, typ string) api.Method {
	return api.Method{Name: name, Type: typ, Abstract: true}
}

func withFields(l ...api.Field) api.Class     { return api.Class{Name: "A", Fields: l} }
func withMethods(l ...api.Method) api.Class   { return api.Class{Name: "A", Methods: l} }
func withHandlers(l ...api.Handler) api.Class { return withMethods(handling(5, l...)) }

// handling has n instructions.
func handling(n int, l ...api.Handler) api.Method {
	return api.Method{Name: "m", Type: "()V", Static: true, Code: code(n), Handlers: l}
}

// names returns different ones.
func names(n int) []string {
	var l []string
	for i := range n {
		l = append(l, fmt.Sprint("n", i))
	}
	return l
}

func fields(n int) []api.Field {
	var l []api.Field
	for i, s := range names(n) {
		l = append(l, api.Field{Name: s, Type: []string{"I", "J", "LA;", "[[[I"}[i%4]})
	}
	return l
}

func methods(n int) []api.Method {
	var l []api.Method
	for _, s := range names(n) {
		l = append(l, static(s, "(I)V", 1))
	}
	return l
}

func handlers(n int) []api.Handler {
	return slices.Repeat([]api.Handler{{From: 0, To: 2, At: 1, Class: "E"}}, n)
}

// whole is a class in which everything occurs several times.
func whole() api.Class {
	return api.Class{
		Name:  "Whole",
		Super: "Above",
		Faces: []string{"B", "C", "D", "E", "F"},
		Fields: []api.Field{
			{Name: "a", Type: "I"}, {Name: "b", Type: "J"}, {Name: "c", Type: "LA;"}, {Name: "d", Type: "[[[LWhole;"},
		},
		Methods: []api.Method{
			{
				Name: "m", Type: "(IJ)I", Locals: 4, Code: program("load 1; store 3; if 4 2; nop; push 1 I; give"),
				Handlers: []api.Handler{{From: 0, To: 6, At: 5, Class: "Fault"}, {From: 2, To: 3, At: 0, Class: "E"}, {From: 5, To: 6, At: 5, Class: "E"}},
			},
			{Name: "m", Type: "(I)I", Abstract: true, Locals: 1},
			{
				Name: "n", Type: "([I)V", Static: true, Private: true, Locals: 8, Code: program("load 7; pop; nop; return"),
				Handlers: []api.Handler{{From: 1, To: 4, At: 0, Class: "Whole"}, {From: 0, To: 1, At: 3, Class: "Object"}},
			},
			{Name: "a", Type: "()V", Private: true, Locals: 1, Code: program("goto 0")},
			{Name: "z", Type: "(LA;LB;IIJ)J", Locals: 6, Code: program("load 5; give")},
		},
	}
}

func wholeFace() api.Class {
	c := whole()
	c.Face, c.Fields = true, nil
	return c
}

// copied shares no memory with c.
func copied(c api.Class) api.Class {
	c.Faces = slices.Clone(c.Faces)
	c.Fields = slices.Clone(c.Fields)
	c.Methods = slices.Clone(c.Methods)
	for i := range c.Methods {
		m := &c.Methods[i]
		m.Code, m.Handlers = slices.Clone(m.Code), slices.Clone(m.Handlers)
	}
	return c
}

// trouble is an error, and where the chapter names it: the numbers of the items,
// and of the elements between them.
type trouble struct {
	place []int
	err   error
}

type troubles []trouble

func (l *troubles) add(wrong bool, err error, place ...int) {
	if wrong {
		*l = append(*l, trouble{place, err})
	}
}

func (l troubles) first() error {
	if len(l) == 0 {
		return nil
	}
	return slices.MinFunc(l, func(a, b trouble) int { return slices.Compare(a.place, b.place) }).err
}

// wantCheck states CL1: all that is wrong, and the error that comes first.
func wantCheck(c api.Class) error {
	var l troubles
	l.add(!nameShape.MatchString(c.Name), api.ErrForm, 1)
	l.add(!nameShape.MatchString(c.Super) && c.Super != "", api.ErrForm, 2)
	for i, s := range c.Faces {
		l.add(!nameShape.MatchString(s), api.ErrForm, 3, i, 1)
		l.add(slices.Index(c.Faces, s) < i, api.ErrTwice, 3, i, 2)
	}
	l.add(len(c.Faces) > 8, api.ErrFull, 4)
	l.add(len(c.Fields) > 8, api.ErrFull, 4)
	l.add(len(c.Methods) > 8, api.ErrFull, 4)
	for i, f := range c.Fields {
		l.add(!nameShape.MatchString(f.Name), api.ErrForm, 5, i, 1)
		l.add(!typeShape.MatchString(f.Type), api.ErrForm, 5, i, 1)
		for _, e := range c.Fields[:i] {
			l.add(e.Name == f.Name, api.ErrTwice, 5, i, 2)
		}
	}
	for i, m := range c.Methods {
		for _, e := range c.Methods[:i] {
			l.add(e.Name == m.Name && e.Type == m.Type, api.ErrTwice, 6, i, 2)
		}
		l.addMethod(m, i)
	}
	l.add(c.Face && len(c.Fields) > 0, api.ErrShape, 7)
	return l.first()
}

func (l *troubles) addMethod(m api.Method, i int) {
	l.add(!nameShape.MatchString(m.Name), api.ErrForm, 6, i, 1)
	l.add(!methodShape.MatchString(m.Type), api.ErrForm, 6, i, 1)
	l.add(m.Locals < 0 || 8 < m.Locals, api.ErrRange, 6, i, 3)
	if m.Abstract {
		l.add(m.Static || m.Private, api.ErrShape, 6, i, 4)
		l.add(len(m.Code) != 0 || len(m.Handlers) != 0, api.ErrShape, 6, i, 4)
		return
	}
	err := flow.Check(m.Code)
	l.add(err != nil, err, 6, i, 4)
	args, _, _ := strings.Cut(m.Type, ")")
	for _, x := range m.Code {
		l.add((x.Op == api.Load || x.Op == api.Store) && m.Locals <= x.A, api.ErrRange, 6, i, 5)
	}
	number := len(oneType.FindAllString(args, -1))
	l.add(m.Locals < number || !m.Static && m.Locals == number, api.ErrRange, 6, i, 5)
	for k, h := range m.Handlers {
		l.add(!(0 <= h.From && h.From < h.To), api.ErrRange, 6, i, 6, k, 1)
		l.add(h.To > len(m.Code), api.ErrRange, 6, i, 6, k, 1)
		l.add(!(0 <= h.At && h.At < len(m.Code)), api.ErrRange, 6, i, 6, k, 1)
		l.add(!nameShape.MatchString(h.Class), api.ErrForm, 6, i, 6, k, 2)
	}
	l.add(len(m.Handlers) > 8, api.ErrFull, 6, i, 7)
}

// show writes a class in few words, even if it is long.
func show(c api.Class) string {
	s := fmt.Sprintf("%+v", c)
	return s[:min(len(s), 2000)]
}

func rangeIf(wrong bool) error {
	if wrong {
		return api.ErrRange
	}
	return nil
}

// expect compares errors by ==, because rule P3 demands the error itself and not
// one that wraps it. It compares with what wantCheck says as well, so that the
// results that the tests give by hand confirm it. The class stays as it is (P2).
func expect(t *testing.T, c api.Class, want error) {
	t.Helper()
	kept := copied(c)
	err := class.Check(c)
	if err != want {
		t.Fatalf("Check(%s) = %v, want %v", show(c), err, want)
	}
	if stated := wantCheck(c); stated != want {
		t.Fatalf("wantCheck(%s) = %v, want %v", show(c), stated, want)
	}
	if !reflect.DeepEqual(c, kept) {
		t.Fatalf("the class %s has been changed to %s", show(kept), show(c))
	}
}

func TestValid(t *testing.T) {
	for _, c := range []api.Class{
		{Name: "A"},
		{Name: longest, Super: longest},
		{Name: "A", Super: "Object"},
		{Name: "Object"},
		{Name: "Fault", Super: "Object"},
		{Name: "_1", Faces: []string{"B"}},
		{Name: "A", Faces: []string{}, Fields: []api.Field{}, Methods: []api.Method{}},
		withFields(api.Field{Name: "f", Type: "I"}),
		withFields(fields(8)...),
		withMethods(static("m", "()V", 0)),
		withMethods(abstract("m", "()V")),
		withMethods(methods(8)...),
		withHandlers(handlers(8)...),
		{Name: "A", Super: "B", Faces: names(8), Fields: fields(8), Methods: methods(8)},
		whole(),
	} {
		expect(t, c, nil)
	}
}

func TestValidFaces(t *testing.T) {
	for _, c := range []api.Class{
		{Name: "A", Face: true},
		{Name: "A", Super: "Object", Face: true},
		{Name: "A", Super: "B", Face: true},
		{Name: "A", Face: true, Faces: []string{"B", "C"}},
		{Name: "A", Face: true, Faces: names(8), Methods: methods(8)},
		{Name: "A", Face: true, Fields: []api.Field{}},
		{Name: "A", Face: true, Methods: []api.Method{abstract("m", "()V"), abstract("m", "(I)V")}},
		{Name: "A", Face: true, Methods: []api.Method{static("m", "()V", 0)}},
		{Name: "A", Face: true, Methods: []api.Method{{Name: "m", Type: "()V", Private: true, Locals: 1, Code: program("return")}}},
		wholeFace(),
	} {
		expect(t, c, nil)
	}
}

// TestOtherClasses has names of classes that could not be right, but only
// together with other classes, or with the class itself.
func TestOtherClasses(t *testing.T) {
	expect(t, api.Class{Name: "A", Super: "A"}, nil)
	expect(t, api.Class{Name: "A", Faces: []string{"A"}}, nil)
	expect(t, api.Class{Name: "A", Super: "B", Faces: []string{"B"}}, nil)
	expect(t, api.Class{Name: "A", Face: true, Super: "A", Faces: []string{"A", "Object", "Fault"}}, nil)
	expect(t, withFields(api.Field{Name: "A", Type: "LA;"}, api.Field{Name: "f", Type: "LNone;"}), nil)
	expect(t, withMethods(static("A", "(LA;)LNone;", 1)), nil)
	expect(t, withHandlers(api.Handler{From: 0, To: 1, At: 0, Class: "None"}), nil)
	c := withMethods(static("f", "(I)V", 1))
	c.Fields = []api.Field{{Name: "f", Type: "I"}, {Name: "m", Type: "J"}}
	expect(t, c, nil)
}

func TestName(t *testing.T) {
	for _, s := range append(noNames(), "") {
		for _, c := range []api.Class{{}, {Face: true}, whole(), wholeFace()} {
			c.Name = s
			expect(t, c, api.ErrForm)
		}
	}
}

func TestSuper(t *testing.T) {
	for _, s := range noNames() {
		for _, c := range []api.Class{{Name: "A"}, {Name: "A", Face: true}, whole(), wholeFace()} {
			c.Super = s
			expect(t, c, api.ErrForm)
		}
	}
	c := whole()
	c.Super = ""
	expect(t, c, nil)
}

func TestFaces(t *testing.T) {
	for n := 1; n <= 8; n++ {
		for i := range n {
			for _, s := range append(noNames(), "") {
				c := api.Class{Name: "A", Faces: names(n)}
				c.Faces[i] = s
				expect(t, c, api.ErrForm)
			}
			for k := range i {
				c := api.Class{Name: "A", Faces: names(n)}
				c.Faces[i] = c.Faces[k]
				expect(t, c, api.ErrTwice)
			}
		}
	}
	expect(t, api.Class{Name: "A", Faces: []string{"B", "b", "Bb", "B_", "BB"}}, nil)
}

// TestOrderOfFaces has a wrong element before one that is there twice, and the
// other way round.
func TestOrderOfFaces(t *testing.T) {
	for s, want := range map[string]error{
		"B B 1": api.ErrTwice, "B 1 B": api.ErrForm, "1 B B": api.ErrForm, "1 1": api.ErrForm, "B 1 1 B": api.ErrForm,
		"B C D C 1": api.ErrTwice, "B C D 1 C": api.ErrForm, "B B B B": api.ErrTwice,
	} {
		expect(t, api.Class{Name: "A", Faces: strings.Fields(s)}, want)
	}
}

// TestNumbers has the limit of what a class has, and one more.
func TestNumbers(t *testing.T) {
	for n := range 30 {
		var want error
		if n > 8 {
			want = api.ErrFull
		}
		for _, c := range []api.Class{
			{Name: "A", Faces: names(n)},
			{Name: "A", Face: true, Faces: names(n)},
			withFields(fields(n)...),
			withMethods(methods(n)...),
			{Name: "A", Faces: names(8), Fields: fields(8), Methods: methods(n)},
			{Name: "A", Faces: names(8), Fields: fields(n), Methods: methods(8)},
			{Name: "A", Faces: names(n), Fields: fields(8), Methods: methods(8)},
			{Name: "A", Faces: names(n), Fields: fields(n), Methods: methods(n)},
		} {
			expect(t, c, want)
		}
	}
	for _, n := range []int{255, 256, 257, 264} {
		expect(t, withFields(make([]api.Field, n)...), api.ErrFull)
		expect(t, withMethods(make([]api.Method, n)...), api.ErrFull)
	}
}

// TestManyFaces has errors of the elements, which come before that of their
// number, even where they are behind the limit.
func TestManyFaces(t *testing.T) {
	for _, n := range []int{9, 10, 300} {
		for i := range n {
			c := api.Class{Name: "A", Faces: names(n)}
			c.Faces[i] = "1"
			expect(t, c, api.ErrForm)
			c.Faces[i] = c.Faces[(i+1)%n]
			expect(t, c, api.ErrTwice)
		}
	}
}

func TestFields(t *testing.T) {
	for n := 1; n <= 8; n++ {
		for i := range n {
			for _, s := range append(noNames(), "") {
				c := withFields(fields(n)...)
				c.Fields[i].Name = s
				expect(t, c, api.ErrForm)
			}
			for _, s := range noTypes() {
				c := withFields(fields(n)...)
				c.Fields[i].Type = s
				expect(t, c, api.ErrForm)
			}
			for k := range i {
				c := withFields(fields(n)...)
				c.Fields[i].Name = c.Fields[k].Name
				expect(t, c, api.ErrTwice)
				c.Fields[i].Type = c.Fields[k].Type
				expect(t, c, api.ErrTwice)
				c.Fields[i].Type = "V"
				expect(t, c, api.ErrForm)
			}
		}
	}
	for _, s := range []string{"I", "J", "[I", "[[[J", "LA;", "[[[L" + longest + ";"} {
		expect(t, withFields(api.Field{Name: "f", Type: s}, api.Field{Name: "F", Type: s}, api.Field{Name: longest, Type: s}), nil)
	}
}

// TestOrderOfFields separates names and types by colons.
func TestOrderOfFields(t *testing.T) {
	for s, want := range map[string]error{
		"f:I f:J 1:I": api.ErrTwice, "f:I 1:I f:I": api.ErrForm, "f:V f:I": api.ErrForm, "1:I 1:I": api.ErrForm,
		"f:I f:I g:V": api.ErrTwice, "f:I g:V f:I": api.ErrForm, "f:I g:I h:I g:J i:V": api.ErrTwice, "f:I f:V": api.ErrForm,
	} {
		var l []api.Field
		for _, field := range strings.Fields(s) {
			name, typ, _ := strings.Cut(field, ":")
			l = append(l, api.Field{Name: name, Type: typ})
		}
		expect(t, withFields(l...), want)
	}
}

// TestFaceWithFields has what is wrong by itself before what is wrong only in
// an interface.
func TestFaceWithFields(t *testing.T) {
	for n := 1; n <= 9; n++ {
		c := withFields(fields(n)...)
		c.Face = true
		if n > 8 {
			expect(t, c, api.ErrFull)
			continue
		}
		expect(t, c, api.ErrShape)
		c.Methods = methods(3)
		expect(t, c, api.ErrShape)
		c.Methods[2].Locals = 0
		expect(t, c, api.ErrRange)
		c.Fields[n-1].Type = "V"
		expect(t, c, api.ErrForm)
	}
}

func TestMethodNames(t *testing.T) {
	for n := 1; n <= 8; n++ {
		for i := range n {
			for _, s := range append(noNames(), "") {
				c := withMethods(methods(n)...)
				c.Methods[i].Name = s
				expect(t, c, api.ErrForm)
				c.Methods[i] = abstract(s, "()V")
				expect(t, c, api.ErrForm)
			}
			for _, s := range noMethodTypes() {
				c := withMethods(methods(n)...)
				c.Methods[i].Type = s
				expect(t, c, api.ErrForm)
				c.Methods[i] = abstract("x", s)
				expect(t, c, api.ErrForm)
			}
		}
	}
}

func TestMethodsTwice(t *testing.T) {
	for n := 2; n <= 8; n++ {
		for i := range n {
			for k := range i {
				c := withMethods(methods(n)...)
				c.Methods[i].Name = c.Methods[k].Name
				expect(t, c, api.ErrTwice)
				// No other property makes methods different ones.
				c.Methods[i] = abstract(c.Methods[k].Name, c.Methods[k].Type)
				expect(t, c, api.ErrTwice)
				c.Methods[i] = api.Method{Name: c.Methods[k].Name, Type: c.Methods[k].Type}
				expect(t, c, api.ErrTwice)
				// Methods with one name but different types are.
				for _, s := range []string{"()V", "(I)I", "(J)V", "(I)J", "([I)V"} {
					c.Methods[i] = static(c.Methods[k].Name, s, 1)
					expect(t, c, nil)
				}
			}
		}
	}
	// The names and the types are compared each by itself, whole.
	expect(t, withMethods(static("a", "()V", 0), static("aa", "()V", 0), static("A", "()V", 0), static("a", "()I", 0)), nil)
}

// TestLocalsRange has the same limits for every method.
func TestLocalsRange(t *testing.T) {
	for n := 1; n <= 3; n++ {
		for i := range n {
			for _, locals := range []int{-1, -2, 0, 1, 7, 8, 9, 10, 255, 256, 264, math.MinInt, math.MaxInt, 1 << 32} {
				want := rangeIf(locals < 0 || 8 < locals)
				c := withMethods(methods(n)...)
				c.Methods[i] = static("x", "()V", locals)
				expect(t, c, want)
				c.Methods[i] = abstract("x", "(IIIII)V")
				c.Methods[i].Locals = locals
				expect(t, c, want)
			}
		}
	}
}

// TestAbstract has each combination of what an abstract method does not have.
func TestAbstract(t *testing.T) {
	for bits := range 16 {
		m := abstract("m", "(IJ)I")
		m.Static, m.Private = bits&1 != 0, bits&2 != 0
		if bits&4 != 0 {
			m.Code = program("return")
		}
		if bits&8 != 0 {
			m.Handlers = handlers(1)
		}
		var want error
		if bits != 0 {
			want = api.ErrShape
		}
		for locals := range 9 {
			m.Locals = locals
			expect(t, withMethods(m), want)
			expect(t, withMethods(static("a", "()V", 0), m, abstract("z", "()V")), want)
			expect(t, api.Class{Name: "A", Face: true, Methods: []api.Method{abstract("a", "()V"), m}}, want)
		}
	}
}

// TestAbstractCode has code that would be wrong anywhere, which nobody looks at.
func TestAbstractCode(t *testing.T) {
	m := abstract("m", "()V")
	m.Code, m.Handlers = make([]api.Ins, 41), make([]api.Handler, 9)
	expect(t, withMethods(m), api.ErrShape)
	m.Code = nil
	expect(t, withMethods(m), api.ErrShape)
	m.Code, m.Handlers = make([]api.Ins, 1), nil
	expect(t, withMethods(m), api.ErrShape)
	m.Code, m.Handlers = []api.Ins{}, []api.Handler{}
	expect(t, withMethods(m), nil)
}

func TestCode(t *testing.T) {
	wrong := map[error][][]api.Ins{
		api.ErrFull:  {code(41), make([]api.Ins, 41), slices.Repeat(program("load 7"), 300)},
		api.ErrForm:  {{{}}, {{Op: 29}, {Op: api.Return}}, {{Op: api.New, Class: "1"}, {Op: api.Load, A: 8}}, make([]api.Ins, 40)},
		api.ErrRange: {program("goto 1"), {{Op: api.Load, A: 8}, {Op: api.Return}}, program("ifnull 2; return"), program("if 5 0; nop")},
		api.ErrShape: {nil, {}, program("nop"), program("return; pop"), program("load 0")},
	}
	for want, l := range wrong {
		for _, code := range l {
			for _, at := range []int{0, 1, 4} {
				c := withMethods(methods(5)...)
				c.Methods[at].Code = code
				expect(t, c, want)
				c.Methods[at].Static = false
				expect(t, c, want)
				c.Methods[at].Handlers = make([]api.Handler, 9)
				expect(t, c, want)
			}
		}
	}
	for n := 1; n <= 40; n++ {
		m := static("m", "()V", 0)
		m.Code = code(n)
		expect(t, withMethods(m), nil)
	}
}

// TestLocalsForArguments gives each number of arguments each number of locals.
// An argument takes one, whatever its type.
func TestLocalsForArguments(t *testing.T) {
	for args := range 6 {
		for _, arg := range []string{"I", "J", "LA;", "[[[I", "[J"} {
			for _, gives := range []string{"V", "I", "J", "LA;"} {
				for locals := range 9 {
					typ := "(" + strings.Repeat(arg, args) + ")" + gives
					m := static("m", typ, locals)
					expect(t, withMethods(m), rangeIf(locals < args))
					m.Static = false
					want := rangeIf(locals < args+1)
					expect(t, withMethods(m), want)
					m.Private = true
					expect(t, withMethods(static("a", "()V", 0), m, static("z", "()V", 0)), want)
				}
			}
		}
	}
}

// TestLocalsForCode has a Load or Store of each local, with each number of
// locals, at each place, whether it can be reached or not.
func TestLocalsForCode(t *testing.T) {
	for _, x := range []api.Ins{{Op: api.Load}, {Op: api.Store}} {
		for a := range 8 {
			x.A = a
			for locals := range 9 {
				for at := range 4 {
					for _, first := range program("nop; return") {
						m := static("m", "()V", locals)
						m.Code = code(6)
						m.Code[0] = first
						m.Code[at] = x
						expect(t, withMethods(m), rangeIf(locals <= a))
						m.Code[4] = api.Ins{Op: api.Load, A: 2}
						expect(t, withMethods(static("a", "()V", 0), m), rangeIf(locals <= max(a, 2)))
					}
				}
			}
		}
	}
}

// TestOtherNumbers has operations whose A is not a local.
func TestOtherNumbers(t *testing.T) {
	for _, s := range []string{"push 7 I", "push 7 J", "math 8 I", "if 8 5", "ifnull 8", "goto 8", "nop", "new A"} {
		m := static("m", "()V", 0)
		m.Code = code(9)
		m.Code[3] = program(s)[0]
		expect(t, withMethods(m), nil)
	}
}

// TestHandlerNumbers has each From, To and At around code of some lengths.
func TestHandlerNumbers(t *testing.T) {
	for _, n := range []int{1, 2, 3, 5} {
		for from := -2; from <= n+2; from++ {
			for to := -2; to <= n+2; to++ {
				for at := -2; at <= n+2; at++ {
					want := rangeIf(from < 0 || to <= from || to > n || at < 0 || at >= n)
					h := api.Handler{From: from, To: to, At: at, Class: "E"}
					good := api.Handler{From: 0, To: n, At: n - 1, Class: "E"}
					expect(t, withMethods(handling(n, h)), want)
					expect(t, withMethods(handling(n, good, h)), want)
					expect(t, withMethods(handling(n, good, h, good)), want)
				}
			}
		}
	}
}

// TestHandlerLimits has the longest code, and numbers that an addition or a
// difference would take for others.
func TestHandlerLimits(t *testing.T) {
	expect(t, withMethods(handling(40, api.Handler{From: 39, To: 40, At: 39, Class: "E"})), nil)
	expect(t, withMethods(handling(40, api.Handler{From: 39, To: 41, At: 39, Class: "E"})), api.ErrRange)
	expect(t, withMethods(handling(40, api.Handler{From: 39, To: 40, At: 40, Class: "E"})), api.ErrRange)
	limits := []int{math.MinInt, math.MinInt + 1, -1 << 32, 1 << 32, 1<<32 + 1, math.MaxInt - 1, math.MaxInt}
	for _, a := range limits {
		expect(t, withHandlers(api.Handler{From: a, To: 2, At: 1, Class: "E"}), api.ErrRange)
		expect(t, withHandlers(api.Handler{From: 1, To: a, At: 1, Class: "E"}), api.ErrRange)
		expect(t, withHandlers(api.Handler{From: 1, To: 2, At: a, Class: "E"}), api.ErrRange)
		for _, b := range limits {
			expect(t, withHandlers(api.Handler{From: a, To: b, At: 1, Class: "E"}), api.ErrRange)
		}
	}
}

// TestHandlersOverlap has several handlers for the same instructions, which is
// not excluded.
func TestHandlersOverlap(t *testing.T) {
	h := api.Handler{From: 0, To: 5, At: 2, Class: "E"}
	expect(t, withHandlers(h, h, h, api.Handler{From: 1, To: 3, At: 4, Class: "E"}, api.Handler{From: 1, To: 3, At: 4, Class: "F"}), nil)
}

func TestHandlerClasses(t *testing.T) {
	for n := 1; n <= 8; n++ {
		for i := range n {
			for _, s := range append(noNames(), "") {
				c := withHandlers(handlers(n)...)
				c.Methods[0].Handlers[i].Class = s
				expect(t, c, api.ErrForm)
				c.Methods[0].Handlers[i].To = 6
				expect(t, c, api.ErrRange)
			}
		}
	}
}

// TestOrderOfHandlers has two wrong handlers.
func TestOrderOfHandlers(t *testing.T) {
	for i := range 9 {
		for k := range i {
			c := withHandlers(handlers(9)...)
			c.Methods[0].Handlers[k].Class = "1"
			c.Methods[0].Handlers[i].From = -1
			expect(t, c, api.ErrForm)
			c = withHandlers(handlers(9)...)
			c.Methods[0].Handlers[k].At = 5
			c.Methods[0].Handlers[i].Class = ""
			expect(t, c, api.ErrRange)
		}
	}
}

// TestNumberOfHandlers has errors of the handlers, which come before that of
// their number, even where they are behind the limit.
func TestNumberOfHandlers(t *testing.T) {
	for n := range 30 {
		var want error
		if n > 8 {
			want = api.ErrFull
		}
		for at := range 3 {
			c := withMethods(methods(3)...)
			c.Methods[at] = handling(2, handlers(n)...)
			expect(t, c, want)
		}
		for i := range n {
			c := withHandlers(handlers(n)...)
			c.Methods[0].Handlers[i].Class = "1"
			expect(t, c, api.ErrForm)
			c.Methods[0].Handlers[i].At = -1
			expect(t, c, api.ErrRange)
		}
	}
	// Each method has handlers of its own.
	c := withMethods(methods(8)...)
	for i := range c.Methods {
		c.Methods[i].Handlers = slices.Repeat([]api.Handler{{From: 0, To: 1, At: 0, Class: "E"}}, 8)
	}
	expect(t, c, nil)
}

// even is a class whose methods with code are alike but for their names.
func even() api.Class {
	c := whole()
	model := c.Methods[0]
	c.Methods = nil
	for _, s := range []string{"a", "b", "c", "d", "e"} {
		m := model
		m.Name = s
		if s == "b" || s == "d" {
			m = abstract(s, model.Type)
		}
		c.Methods = append(c.Methods, m)
	}
	return copied(c)
}

// flaw makes a part of even wrong.
type flaw struct {
	put  func(*api.Class)
	want error
}

// flaws has each error in the order of CL1. Each leaves room for all others.
func flaws() []flaw {
	l := []flaw{
		{func(c *api.Class) { c.Name = "1" }, api.ErrForm},
		{func(c *api.Class) { c.Super = "1" }, api.ErrForm},
		{func(c *api.Class) { c.Faces[0] = "" }, api.ErrForm},
		{func(c *api.Class) { c.Faces[2] = "C" }, api.ErrTwice},
		{func(c *api.Class) { c.Faces[3] = "1" }, api.ErrForm},
		{func(c *api.Class) { c.Faces[4] = "C" }, api.ErrTwice},
		{func(c *api.Class) { c.Faces = append(c.Faces, names(8)...) }, api.ErrFull},
		{func(c *api.Class) { c.Fields = append(c.Fields, fields(8)...) }, api.ErrFull},
		{func(c *api.Class) { c.Methods = append(c.Methods, methods(8)...) }, api.ErrFull},
		{func(c *api.Class) { c.Fields[0].Name = "1" }, api.ErrForm},
		{func(c *api.Class) { c.Fields[2].Type = "V" }, api.ErrForm},
		{func(c *api.Class) { c.Fields[2].Name = "b" }, api.ErrTwice},
		{func(c *api.Class) { c.Fields[3].Name = "" }, api.ErrForm},
	}
	l = append(l, flawsOfCode(0)...)
	l = append(l, flawsOfAbstract(1)...)
	l = append(l, flawsOfCode(2)...)
	l = append(l, flawsOfAbstract(3)...)
	l = append(l, flawsOfCode(4)...)
	return append(l, flaw{func(c *api.Class) { c.Face = true }, api.ErrShape})
}

// flawsOfCode has those of a method with code.
func flawsOfCode(at int) []flaw {
	return slices.Concat(flawsOfSignature(at), []flaw{
		{of(at, func(m *api.Method) { m.Code = append(slices.Repeat(program("nop"), 35), m.Code...) }), api.ErrFull},
		{of(at, func(m *api.Method) { m.Code[len(m.Code)-3].A = 1 }), api.ErrForm},
		{of(at, func(m *api.Method) { m.Code[len(m.Code)-4].A = 40 }), api.ErrRange},
		{of(at, func(m *api.Method) { m.Code[len(m.Code)-1].Op = api.Nop }), api.ErrShape},
		{of(at, func(m *api.Method) { m.Code[len(m.Code)-5].A = 7 }), api.ErrRange},
		{of(at, func(m *api.Method) { m.Handlers[0].From = 6 }), api.ErrRange},
		{of(at, func(m *api.Method) { m.Handlers[1].Class = "1" }), api.ErrForm},
		{of(at, func(m *api.Method) { m.Handlers[2].At = 41 }), api.ErrRange},
		{of(at, func(m *api.Method) { m.Handlers = append(m.Handlers, handlers(6)...) }), api.ErrFull},
	})
}

func flawsOfAbstract(at int) []flaw {
	return slices.Concat(flawsOfSignature(at), []flaw{
		{of(at, func(m *api.Method) { m.Static = true }), api.ErrShape},
		{of(at, func(m *api.Method) { m.Private = true }), api.ErrShape},
		{of(at, func(m *api.Method) { m.Code = program("return") }), api.ErrShape},
		{of(at, func(m *api.Method) { m.Handlers = handlers(1) }), api.ErrShape},
	})
}

// flawsOfSignature has those of every method. The first method cannot have the
// name of an earlier one.
func flawsOfSignature(at int) []flaw {
	l := []flaw{{of(at, func(m *api.Method) { m.Type = "()" }), api.ErrForm}}
	if at > 0 {
		l = append(l, flaw{func(c *api.Class) { c.Methods[at].Name = c.Methods[at-1].Name }, api.ErrTwice})
	}
	return append(l, flaw{of(at, func(m *api.Method) { m.Locals = -1 }), api.ErrRange})
}

// of puts a flaw into one method.
func of(at int, put func(*api.Method)) func(*api.Class) {
	return func(c *api.Class) { put(&c.Methods[at]) }
}

// flawed puts flaws in the given order.
func flawed(l ...flaw) api.Class {
	c := even()
	for _, f := range l {
		f.put(&c)
	}
	return c
}

// TestOrder has each error alone, with each one that comes later, and with all
// of those.
func TestOrder(t *testing.T) {
	expect(t, even(), nil)
	l := flaws()
	for i, f := range l {
		expect(t, flawed(f), f.want)
		for _, later := range l[i+1:] {
			expect(t, flawed(f, later), f.want)
			expect(t, flawed(later, f), f.want)
		}
		expect(t, flawed(l[i:]...), f.want)
		rest := slices.Clone(l[i:])
		slices.Reverse(rest)
		expect(t, flawed(rest...), f.want)
	}
}

// TestManyClasses has classes with several flaws, always the same.
func TestManyClasses(t *testing.T) {
	r := rand.New(rand.NewSource(7))
	found := map[error]int{}
	for range 20000 {
		c := some(r)
		want := wantCheck(c)
		expect(t, c, want)
		found[want]++
	}
	for _, want := range []error{nil, api.ErrForm, api.ErrRange, api.ErrFull, api.ErrTwice, api.ErrShape} {
		if found[want] < 150 {
			t.Errorf("%d of 20000 classes give %v", found[want], want)
		}
	}
}

// pick returns one of the right ones, or seldom one of the wrong ones.
func pick[T any](r *rand.Rand, right, wrong []T) T {
	if r.Intn(150) == 0 {
		return wrong[r.Intn(len(wrong))]
	}
	return right[r.Intn(len(right))]
}

func some(r *rand.Rand) api.Class {
	name := func() string { return pick(r, names(40), append(noNames(), "")) }
	c := api.Class{Name: name(), Super: pick(r, []string{"", "B"}, noNames()), Face: r.Intn(4) == 0}
	for range pick(r, []int{0, 1, 2, 3}, []int{8, 9}) {
		c.Faces = append(c.Faces, name())
	}
	if !c.Face || r.Intn(4) == 0 {
		for range pick(r, []int{0, 1, 2, 3}, []int{8, 9}) {
			c.Fields = append(c.Fields, api.Field{Name: name(), Type: pick(r, []string{"I", "J", "[LA;"}, noTypes())})
		}
	}
	for range pick(r, []int{0, 1, 2}, []int{8, 9}) {
		c.Methods = append(c.Methods, someMethod(r, name))
	}
	return c
}

func someMethod(r *rand.Rand, name func() string) api.Method {
	m := api.Method{Name: name(), Type: pick(r, []string{"()V", "(I)J", "(JLA;)I"}, noMethodTypes())}
	m.Locals = pick(r, []int{3, 4, 7, 8}, []int{-1, 0, 1, 2, 9})
	if m.Abstract = r.Intn(4) == 0; m.Abstract {
		m.Static = pick(r, []bool{false}, []bool{true})
		m.Private = pick(r, []bool{false}, []bool{true})
		m.Code = pick(r, [][]api.Ins{nil}, [][]api.Ins{code(1)})
		return m
	}
	m.Static, m.Private = r.Intn(2) == 0, r.Intn(2) == 0
	n := pick(r, []int{1, 2, 3, 5}, []int{40, 41})
	for range n - 1 {
		m.Code = append(m.Code, pick(r, program("nop; load 0; store 2; load 1"), program("load 3; store 7; goto 3; if 40 0")))
	}
	m.Code = append(m.Code, pick(r, program("return; give; throw; goto 0"), program("nop; load 7; ifnull 0")))
	for range pick(r, []int{0, 0, 1, 2}, []int{8, 9}) {
		from := r.Intn(n)
		m.Handlers = append(m.Handlers, api.Handler{
			From:  pick(r, []int{from}, []int{-1, n}),
			To:    pick(r, []int{from + 1, n}, []int{from, n + 1}),
			At:    pick(r, []int{0, n - 1}, []int{-1, n}),
			Class: name(),
		})
	}
	return m
}

// TestRoomKept gives lists with room behind their ends, because an append within
// the package would write there (rule P2).
func TestRoomKept(t *testing.T) {
	c := even()
	full := copied(c)
	part := c
	part.Faces, part.Fields, part.Methods = c.Faces[:2], c.Fields[:2], c.Methods[:3]
	part.Methods = slices.Clone(part.Methods)
	part.Methods[0].Handlers = c.Methods[0].Handlers[:1]
	part.Methods[2].Handlers = c.Methods[2].Handlers[:0]
	expect(t, part, nil)
	part.Methods[2].Code = c.Methods[2].Code[:3]
	expect(t, part, api.ErrRange)
	if !reflect.DeepEqual(c, full) {
		t.Errorf("what is behind the lists has been changed: %+v", c)
	}
}

// TestSameAgain has classes in between that could be confused with the next one
// if anything were kept (rule P2).
func TestSameAgain(t *testing.T) {
	c := even()
	for range 3 {
		expect(t, c, nil)
		expect(t, c, nil)
		for _, f := range flaws() {
			expect(t, flawed(f), f.want)
		}
		c.Faces[1], c.Fields[1].Name, c.Methods[1].Name = c.Faces[2], c.Fields[2].Name, c.Methods[2].Name
		expect(t, c, api.ErrTwice)
		c = even()
	}
}

// TestLong has classes that must be decided in time (rule P1). It does without
// wantCheck, which compares each element with each other one.
func TestLong(t *testing.T) {
	long := strings.Repeat("a", 1<<22)
	// Without room behind their ends, so that each append makes a list of its own.
	many, handled := slices.Clip(names(1<<18)), slices.Clip(handlers(1<<18))
	for i, e := range []struct {
		c    api.Class
		want error
	}{
		{api.Class{Name: long}, api.ErrForm},
		{api.Class{Name: "A", Super: long}, api.ErrForm},
		{api.Class{Name: "A", Faces: []string{"B", long}}, api.ErrForm},
		{withFields(api.Field{Name: "f", Type: strings.Repeat("[", 1<<22)}), api.ErrForm},
		{withMethods(static("m", "(L"+long+";)V", 8)), api.ErrForm},
		{withMethods(static("m", "("+strings.Repeat("I", 1<<22)+")V", 8)), api.ErrForm},
		{withHandlers(handled...), api.ErrFull},
		{withHandlers(append(handled, api.Handler{})...), api.ErrRange},
		{withHandlers(append(handled, api.Handler{To: 1})...), api.ErrForm},
		{withMethods(handling(1 << 18)), api.ErrFull},
		{api.Class{Name: "A", Faces: many}, api.ErrFull},
		{api.Class{Name: "A", Faces: append(many, many[0])}, api.ErrTwice},
		{api.Class{Name: "A", Faces: append(many, many[len(many)-1])}, api.ErrTwice},
		{api.Class{Name: "A", Faces: append(many, "")}, api.ErrForm},
		{withFields(make([]api.Field, 1<<16)...), api.ErrFull},
		{withFields(make([]api.Field, 1<<16+1)...), api.ErrFull},
		{withMethods(make([]api.Method, 1<<16)...), api.ErrFull},
		{withMethods(make([]api.Method, 1<<16+1)...), api.ErrFull},
	} {
		if err := class.Check(e.c); err != e.want {
			t.Errorf("Check of long class %d = %v, want %v", i, err, e.want)
		}
	}
}

func ExampleCheck() {
	fmt.Println(class.Check(api.Class{Name: "A"}))
	fmt.Println(class.Check(api.Class{Name: "A", Faces: []string{"B", "B"}}))
	m := api.Method{Name: "m", Type: "(I)V", Locals: 1, Code: []api.Ins{{Op: api.Return}}}
	fmt.Println(class.Check(api.Class{Name: "A", Methods: []api.Method{m}}))
	// Output:
	// <nil>
	// ErrTwice
	// ErrRange
}

// FuzzCheck puts a flaw for each byte, and takes strings and numbers from the
// input as well.
func FuzzCheck(f *testing.F) {
	f.Add([]byte{}, "A", "B", "I", "(I)V", 3, 0)
	f.Add([]byte{3}, longest, "", "[[[LA;", "()J", 8, 5)
	f.Add([]byte{40, 41}, "B", "B", "J", "(IJLA;[II)V", 6, 6)
	f.Fuzz(func(t *testing.T, b []byte, one, two, field, method string, from, at int) {
		c := even()
		c.Super, c.Faces[1], c.Faces[4] = two, one, two
		c.Fields[1] = api.Field{Name: one, Type: field}
		c.Methods[2].Name, c.Methods[2].Type = two, method
		c.Methods[4].Handlers[1] = api.Handler{From: from, To: 6, At: at, Class: one}
		for _, n := range b[:min(len(b), 10)] {
			if l := flaws(); int(n) < len(l) {
				l[n].put(&c)
			}
		}
		expect(t, c, wantCheck(c))
	})
}
