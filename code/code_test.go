package code_test

import (
	"bytes"
	"fmt"
	"io"
	"slices"
	"strings"
	"testing"

	"coffeehouse/api"
	"coffeehouse/code"
	"coffeehouse/ins"
)

const longest = "abcdefghijklmnopqrst" // a name of MaxName bytes

// sample is an instruction with its text, as chapter 4 gives it.
type sample struct {
	text string
	x    api.Ins
}

func samples() []sample { return append(shortSamples(), longSamples()...) }

// shortSamples has every operation. All of them together are fewer than MaxCode
// instructions.
func shortSamples() []sample {
	return []sample{
		{"nop", api.Ins{Op: api.Nop}},
		{"null", api.Ins{Op: api.Null}},
		{"pop", api.Ins{Op: api.Pop}},
		{"dup", api.Ins{Op: api.Dup}},
		{"swap", api.Ins{Op: api.Swap}},
		{"order", api.Ins{Op: api.Order}},
		{"length", api.Ins{Op: api.Length}},
		{"return", api.Ins{Op: api.Return}},
		{"give", api.Ins{Op: api.Give}},
		{"throw", api.Ins{Op: api.Throw}},
		{"push 5 I", api.Ins{Op: api.Push, A: 5, Type: "I"}},
		{"push -9223372036854775808 J", api.Ins{Op: api.Push, A: -1 << 63, Type: "J"}},
		{"load 7", api.Ins{Op: api.Load, A: 7}},
		{"store 0", api.Ins{Op: api.Store}},
		{"math 12 J", api.Ins{Op: api.Math, A: api.NegM, Type: "J"}},
		{"conv I", api.Ins{Op: api.Conv, Type: "I"}},
		{"if 40 5", api.Ins{Op: api.If, A: 40, B: 5}},
		{"ifnull 3", api.Ins{Op: api.IfNull, A: 3}},
		{"goto 10", api.Ins{Op: api.Goto, A: 10}},
		{"new A", api.Ins{Op: api.New, Class: "A"}},
		{"get A f", api.Ins{Op: api.Get, Class: "A", Name: "f"}},
		{"put _ " + longest, api.Ins{Op: api.Put, Class: "_", Name: longest}},
		{"newarray [[LA;", api.Ins{Op: api.NewArray, Type: "[[LA;"}},
		{"aload J", api.Ins{Op: api.ALoad, Type: "J"}},
		{"astore LA;", api.Ins{Op: api.AStore, Type: "LA;"}},
		{"cast [[[I", api.Ins{Op: api.Cast, Type: "[[[I"}},
		{"is L" + longest + ";", api.Ins{Op: api.Is, Type: "L" + longest + ";"}},
		{"call ()V A f", api.Ins{Op: api.Call, Type: "()V", Class: "A", Name: "f"}},
		{"calls (IJ)[I B_2 nop", api.Ins{Op: api.CallS, Type: "(IJ)[I", Class: "B_2", Name: "nop"}},
	}
}

// longSamples has texts of each number of bytes from 126, which a signed byte
// can count, to 200, the most there are.
func longSamples() []sample {
	var list []sample
	item := "[[[L" + longest + ";"
	for args := 3; args <= 5; args++ {
		m := "(" + strings.Repeat(item, args) + ")" + item
		for letters := 16; letters <= 40; letters++ {
			class := longest[:min(letters-1, 20)]
			name := longest[:letters-len(class)]
			list = append(list, sample{"calls " + m + " " + class + " " + name,
				api.Ins{Op: api.CallS, Type: m, Class: class, Name: name}})
		}
	}
	return list
}

func longestSample() sample {
	list := longSamples()
	return list[len(list)-1]
}

// form states CD1 for the instructions with the given texts.
func form(texts ...string) []byte {
	b := []byte{byte(len(texts))}
	for _, s := range texts {
		b = slices.Concat(b, []byte{byte(len(s))}, []byte(s))
	}
	return b
}

// both returns the instructions of a list of samples and their binary form.
func both(list []sample) ([]api.Ins, []byte) {
	var l []api.Ins
	var texts []string
	for _, s := range list {
		l = append(l, s.x)
		texts = append(texts, s.text)
	}
	return l, form(texts...)
}

// wantDecode reads b to its end, number by number and text by text.
func wantDecode(b []byte) ([]api.Ins, bool) {
	r := bytes.NewReader(b)
	number, err := r.ReadByte()
	if err != nil || number > 40 {
		return nil, false
	}
	var l []api.Ins
	for len(l) < int(number) {
		length, err := r.ReadByte()
		if err != nil {
			return nil, false
		}
		text := make([]byte, length)
		if _, err := io.ReadFull(r, text); err != nil {
			return nil, false
		}
		x, err := ins.Parse(string(text))
		if err != nil {
			return nil, false
		}
		l = append(l, x)
	}
	return l, r.Len() == 0
}

func expectEncode(t *testing.T, l []api.Ins, want []byte) {
	t.Helper()
	if got, err := code.Encode(l); err != nil || !bytes.Equal(got, want) {
		t.Errorf("Encode(%.300v) = %.300q, %v, want %.300q, nil", l, got, err, want)
	}
}

func expectDecode(t *testing.T, b []byte, want []api.Ins) {
	t.Helper()
	if got, err := code.Decode(b); err != nil || !slices.Equal(got, want) {
		t.Errorf("Decode(%.300q) = %.300v, %v, want %.300v, nil", b, got, err, want)
	}
}

// expectBoth asks for both directions.
func expectBoth(t *testing.T, l []api.Ins, b []byte) {
	t.Helper()
	expectEncode(t, l, b)
	expectDecode(t, b, l)
}

// expectError compares by ==, because rule P3 demands the error itself and not
// one that wraps it.
func expectError(t *testing.T, l []api.Ins, want error) {
	t.Helper()
	if got, err := code.Encode(l); err != want || len(got) != 0 {
		t.Errorf("Encode(%.300v) of %d = %.300q, %v, want %v alone", l, len(l), got, err, want)
	}
}

func expectNone(t *testing.T, b []byte) {
	t.Helper()
	if got, err := code.Decode(b); err != api.ErrForm || len(got) != 0 {
		t.Errorf("Decode(%.300q) = %.300v, %v, want ErrForm alone", b, got, err)
	}
}

// expectAs decodes as wantDecode does, and what it decodes it encodes again.
func expectAs(t *testing.T, b []byte) {
	t.Helper()
	if want, ok := wantDecode(b); ok {
		expectBoth(t, want, b)
	} else {
		expectNone(t, b)
	}
}

// TestBytes has forms that are written out.
func TestBytes(t *testing.T) {
	expectBoth(t, []api.Ins{{Op: api.Nop}}, []byte{1, 3, 'n', 'o', 'p'})
	expectBoth(t, []api.Ins{{Op: api.Nop}, {Op: api.Return}}, []byte("\x02\x03nop\x06return"))
	expectBoth(t, []api.Ins{{Op: api.Push, A: 5, Type: "I"}}, []byte("\x01\x08push 5 I"))
	expectBoth(t, []api.Ins{{Op: api.Push, A: -1, Type: "J"}, {Op: api.Push, Type: "I"}, {Op: api.Give}},
		[]byte("\x03\x09push -1 J\x08push 0 I\x04give"))
	expectBoth(t, []api.Ins{{Op: api.Load}, {Op: api.If, A: 3, B: 2}, {Op: api.Goto}, {Op: api.Return}},
		[]byte("\x04\x06load 0\x06if 3 2\x06goto 0\x06return"))
	expectBoth(t, []api.Ins{{Op: api.Call, Type: "(I)V", Class: "A", Name: "f"}, {Op: api.Get, Class: "A", Name: "f"}},
		[]byte("\x02\x0dcall (I)V A f\x07get A f"))
}

func TestEmpty(t *testing.T) {
	expectBoth(t, nil, []byte{0})
	expectBoth(t, []api.Ins{}, []byte{0})
	expectEncode(t, make([]api.Ins, 5)[:0], []byte{0})
}

// TestEveryOperation has each operation alone.
func TestEveryOperation(t *testing.T) {
	found := map[int]bool{}
	for _, s := range samples() {
		expectBoth(t, []api.Ins{s.x}, form(s.text))
		found[s.x.Op] = true
	}
	if len(found) != 28 {
		t.Errorf("%d operations are encoded here, want all 28", len(found))
	}
}

// TestEveryLength makes sure that longSamples has what it promises.
func TestEveryLength(t *testing.T) {
	for i, s := range longSamples() {
		if len(s.text) != 126+i {
			t.Errorf("the text of %d bytes is where one of %d should be", len(s.text), 126+i)
		}
	}
	if n := len(longSamples()); n != 75 {
		t.Errorf("%d long texts are encoded here, want 75", n)
	}
}

// TestPairs has each sample before and behind each other one.
func TestPairs(t *testing.T) {
	list := samples()
	for _, a := range list {
		for _, b := range list {
			expectBoth(t, []api.Ins{a.x, b.x}, form(a.text, b.text))
		}
	}
}

// TestNumbersOfInstructions has lists of every number of instructions, of the
// same ones and of different ones.
func TestNumbersOfInstructions(t *testing.T) {
	list := samples()
	for n := range 41 {
		for i := range list {
			expectBoth(t, slices.Repeat([]api.Ins{list[i].x}, n), form(slices.Repeat([]string{list[i].text}, n)...))
			if i+n <= len(list) {
				l, b := both(list[i : i+n])
				expectBoth(t, l, b)
			}
		}
	}
}

// TestForty has the list with the longest form of all.
func TestForty(t *testing.T) {
	l, b := both(slices.Repeat([]sample{longestSample()}, 40))
	if len(b) != 1+40*201 {
		t.Fatalf("the longest form has %d bytes", len(b))
	}
	expectBoth(t, l, b)
}

// TestTooMany has more than 40 instructions, valid or not, in numbers of which
// one byte would keep a permitted one, too.
func TestTooMany(t *testing.T) {
	for _, n := range []int{41, 42, 100, 127, 128, 200, 255, 256, 257, 296, 297, 512, 1024, 65536, 65537, 1 << 20} {
		valid := slices.Repeat([]api.Ins{{Op: api.Nop}}, n)
		expectError(t, valid, api.ErrFull)
		for _, x := range []api.Ins{{}, {Op: 29}, {Op: api.Load, A: 8}, {Op: api.Pop, A: 1}} {
			for _, at := range []int{0, 1, 20, 39, 40, n - 1} {
				l := slices.Clone(valid)
				l[at] = x
				expectError(t, l, api.ErrFull)
			}
			expectError(t, slices.Repeat([]api.Ins{x}, n), api.ErrFull)
		}
	}
	for _, s := range samples() {
		expectError(t, slices.Repeat([]api.Ins{s.x}, 41), api.ErrFull)
	}
	expectError(t, make([]api.Ins, 41), api.ErrFull)
}

// wrong is an instruction that is not valid, and its error.
type wrong struct {
	x    api.Ins
	want error
}

func wrongs() []wrong {
	return []wrong{
		{api.Ins{}, api.ErrForm},
		{api.Ins{Op: -1}, api.ErrForm},
		{api.Ins{Op: 29}, api.ErrForm},
		{api.Ins{Op: 257}, api.ErrForm},
		{api.Ins{Op: api.Nop, A: 1}, api.ErrForm},
		{api.Ins{Op: api.Return, B: 1}, api.ErrForm},
		{api.Ins{Op: api.Load, A: 8, Type: "I"}, api.ErrForm},
		{api.Ins{Op: api.Push, A: 1 << 31, Type: "I"}, api.ErrRange},
		{api.Ins{Op: api.Push, A: 5}, api.ErrForm},
		{api.Ins{Op: api.Push, A: 5, Type: "V"}, api.ErrForm},
		{api.Ins{Op: api.Load, A: 8}, api.ErrRange},
		{api.Ins{Op: api.Store, A: -1}, api.ErrRange},
		{api.Ins{Op: api.Math, Type: "I"}, api.ErrRange},
		{api.Ins{Op: api.Math, A: 13, Type: "V"}, api.ErrRange},
		{api.Ins{Op: api.If, A: 41}, api.ErrRange},
		{api.Ins{Op: api.If, B: 6}, api.ErrRange},
		{api.Ins{Op: api.Goto, A: 41}, api.ErrRange},
		{api.Ins{Op: api.New, Class: "1"}, api.ErrForm},
		{api.Ins{Op: api.New, Class: longest + "u"}, api.ErrForm},
		{api.Ins{Op: api.Get, Class: "A"}, api.ErrForm},
		{api.Ins{Op: api.NewArray, Type: "[[[I"}, api.ErrForm},
		{api.Ins{Op: api.Call, Type: "(IIIIII)V", Class: "A", Name: "f"}, api.ErrForm},
		{api.Ins{Op: api.New, Class: strings.Repeat("a", 300)}, api.ErrForm},
	}
}

// TestWrongInstructions puts each of them at each place of lists of several
// numbers of instructions.
func TestWrongInstructions(t *testing.T) {
	for _, w := range wrongs() {
		for _, n := range []int{1, 2, 3, 5, 39, 40} {
			for at := range n {
				l := slices.Repeat([]api.Ins{{Op: api.Push, A: 5, Type: "I"}}, n)
				l[at] = w.x
				expectError(t, l, w.want)
			}
			expectError(t, slices.Repeat([]api.Ins{w.x}, n), w.want)
		}
	}
}

// TestFirstError has two wrong instructions at once: the error of the one that
// comes first counts, whichever the list of errors in chapter 4 names first.
func TestFirstError(t *testing.T) {
	found := map[[2]error]bool{}
	for _, v := range wrongs() {
		for _, w := range wrongs() {
			for _, at := range [][2]int{{0, 1}, {0, 39}, {38, 39}, {7, 20}, {1, 2}} {
				l := slices.Repeat([]api.Ins{{Op: api.Dup}}, 40)
				l[at[0]], l[at[1]] = v.x, w.x
				expectError(t, l, v.want)
			}
			expectError(t, []api.Ins{v.x, w.x}, v.want)
			found[[2]error{v.want, w.want}] = true
		}
	}
	if len(found) != 4 {
		t.Errorf("%d pairs of errors are found here, want all 4", len(found))
	}
}

// TestNoForm has bytes that are the form of no list.
func TestNoForm(t *testing.T) {
	for _, s := range []string{
		// no bytes, and a number alone
		"", "\x01", "\x02", "\x28", "\x29", "\xff", "0", " ",
		// a number that is not the one of the instructions
		"\x00\x03nop", "\x02\x03nop", "\x03\x03nop", "\x01\x03nop\x03nop", "\x00\x00", "\x00\x03nop\x03nop", "1\x03nop",
		"\x03nop", "nop", "\x80", "\x81\x03nop", "\xff\x03nop",
		// a length that is not the one of the text
		"\x01\x02nop", "\x01\x04nop", "\x01\x00nop", "\x01\xffnop", "\x01\x83nop", "\x01nop", "\x013nop", "\x02\x02nop\x03nop",
		"\x02\x04nop\x03nop", "\x02\x07nop\x03nop", "\x02\x03nop\x02nop", "\x02\x03nop\x04nop", "\x01\x04nul", "\x01\x03null",
		"\x01\x00\x03nop", "\x01\x03\x00nop", "\x01\x00\x00\x00\x03nop",
		// a byte that is missing, or one too many
		"\x01\x03no", "\x01\x03", "\x01\x03nop\x00", "\x01\x03nopp", "\x01\x03nop\n", "\x01\x03nop ", "\x02\x03nop\x03",
		"\x02\x03nop\x03po", "\x02\x03nop\x03pop\x00", " \x01\x03nop", "\x00\x01\x03nop", "\x00\n",
		// an empty text
		"\x01\x00", "\x02\x00\x00", "\x02\x03nop\x00", "\x02\x00\x03nop",
		// the text of no instruction
		"\x01\x03NOP", "\x01\x03nup", "\x01\x04nop ", "\x01\x04 nop", "\x01\x07nop nop", "\x01\x07nop\nnop", "\x01\x07nop\x03nop",
		"\x01\x06load 8", "\x01\x07load -1", "\x01\x07load 07", "\x01\x04load", "\x01\x09push 05 I", "\x01\x09push +5 I",
		"\x01\x08push 5 V", "\x01\x11push 2147483648 I", "\x01\x07goto 41", "\x01\x06if 0 6", "\x01\x05new 1",
		"\x01\x19new " + longest + "u", "\x01\x0dnewarray [[[I", "\x02\x03nop\x06load 8", "\x02\x06load 8\x03nop",
	} {
		expectNone(t, []byte(s))
	}
	expectNone(t, nil)
}

// TestTooManyTexts has forms that would be right if more instructions were
// permitted.
func TestTooManyTexts(t *testing.T) {
	for n := 41; n < 256; n++ {
		b := []byte{byte(n)}
		expectNone(t, b)
		expectNone(t, append(b, bytes.Repeat([]byte("\x03nop"), n)...))
		expectNone(t, append(b, bytes.Repeat([]byte("\x03nop"), 40)...))
		expectNone(t, append(b, bytes.Repeat([]byte{0}, n)...))
	}
	for n := 256; n <= 297; n++ {
		expectNone(t, append([]byte{byte(n)}, bytes.Repeat([]byte("\x03nop"), n)...))
	}
	for _, s := range samples() {
		expectNone(t, form(slices.Repeat([]string{s.text}, 41)...))
	}
}

// forms has forms of no, one and more instructions, of short and long texts.
func forms() [][]byte {
	l := [][]byte{form(), form("nop", "nop"), form("nop", "dup", "push 5 I", "get A f", "return")}
	for _, s := range shortSamples() {
		l = append(l, form(s.text))
	}
	_, longer := both(shortSamples())
	last := longestSample().text
	return append(l, longer, form(last), form(last, last))
}

// TestWrongNumber puts each other number in front of each form, and each other
// length before a single text.
func TestWrongNumber(t *testing.T) {
	for _, b := range forms() {
		for n := range 256 {
			if byte(n) != b[0] {
				expectNone(t, slices.Concat([]byte{byte(n)}, b[1:]))
			}
			if b[0] == 1 && byte(n) != b[1] {
				expectNone(t, slices.Concat(b[:1], []byte{byte(n)}, b[2:]))
			}
		}
	}
}

// TestCutShort takes off bytes at the end and at the beginning of each form, and
// adds bytes there. The beginning of a form is none, and no form goes on.
func TestCutShort(t *testing.T) {
	for _, b := range forms() {
		for i := range b {
			expectNone(t, b[:i])
			expectAs(t, b[i:])
		}
		for c := range 256 {
			expectNone(t, slices.Concat(b, []byte{byte(c)}))
			expectAs(t, slices.Concat([]byte{byte(c)}, b))
		}
		expectNone(t, slices.Concat(b, b))
		expectNone(t, slices.Concat(b, []byte("\x03nop")))
	}
}

// TestEveryByte puts each of the 256 bytes at each place of a form, both instead
// of a byte and in between, and takes each byte away.
func TestEveryByte(t *testing.T) {
	for _, b := range forms() {
		if len(b) > 100 {
			continue
		}
		for i := range len(b) + 1 {
			for c := range 256 {
				expectAs(t, slices.Insert(slices.Clone(b), i, byte(c)))
				if i < len(b) {
					put := slices.Clone(b)
					put[i] = byte(c)
					expectAs(t, put)
				}
			}
			if i < len(b) {
				expectAs(t, slices.Delete(slices.Clone(b), i, i+1))
			}
		}
	}
}

// TestEveryFewParts leaves out no sequence of up to six of some parts of forms.
func TestEveryFewParts(t *testing.T) {
	parts := []string{"\x00", "\x01", "\x02", "\x03", "\x04", "nop", "\x03pop", "\x04null", "\x06load 8", "\x07"}
	list := []string{""}
	for range 6 {
		var longer []string
		for _, s := range list {
			for _, p := range parts {
				longer = append(longer, s+p)
				expectAs(t, []byte(s+p))
			}
		}
		list = longer
	}
}

// TestEveryTwoBytes leaves out no list of up to two bytes.
func TestEveryTwoBytes(t *testing.T) {
	for i := range 256 {
		if i != 0 {
			expectNone(t, []byte{byte(i)})
		}
		for j := range 256 {
			expectNone(t, []byte{byte(i), byte(j)})
		}
	}
}

// TestArgumentsKept gives lists with room behind their ends, because an append
// within the package would write there (rule P2).
func TestArgumentsKept(t *testing.T) {
	l, b := both(shortSamples())
	n := len(l)
	l, b = append(l, api.Ins{Op: 7}, api.Ins{Op: 8}), append(b, 7, 8, 9)
	keptList, keptBytes := slices.Clone(l), slices.Clone(b)
	for range 2 {
		expectBoth(t, l[:n], b[:len(b)-3])
		expectError(t, append(slices.Clone(l[:n]), api.Ins{}), api.ErrForm)
		expectNone(t, b[:len(b)-2])
		expectNone(t, b[:len(b)-4])
		if !slices.Equal(l, keptList) || !bytes.Equal(b, keptBytes) {
			t.Fatalf("the arguments have been changed to %v and %q", l, b)
		}
	}
}

// TestResultsAreNew changes all of what one call has returned and asks again
// (rule P2).
func TestResultsAreNew(t *testing.T) {
	list := shortSamples()
	for n := range len(list) + 1 {
		l, b := both(list[:n])
		keptList, keptBytes := slices.Clone(l), slices.Clone(b)
		for range 3 {
			gotBytes, err := code.Encode(l)
			if err != nil || !bytes.Equal(gotBytes, keptBytes) {
				t.Fatalf("Encode = %q, %v", gotBytes, err)
			}
			gotList, err := code.Decode(b)
			if err != nil || !slices.Equal(gotList, keptList) {
				t.Fatalf("Decode = %v, %v", gotList, err)
			}
			clear(gotBytes[:cap(gotBytes)])
			clear(gotList[:cap(gotList)])
		}
		if !slices.Equal(l, keptList) || !bytes.Equal(b, keptBytes) {
			t.Fatalf("the arguments have been changed to %v and %q", l, b)
		}
	}
}

// TestArgumentsNotRetained changes the arguments after the calls: neither a list
// nor a string of a result may follow (rule P2).
func TestArgumentsNotRetained(t *testing.T) {
	l, b := both(shortSamples())
	keptList, keptBytes := slices.Clone(l), slices.Clone(b)
	gotBytes, encodeErr := code.Encode(l)
	gotList, decodeErr := code.Decode(b)
	clear(l)
	clear(b)
	if encodeErr != nil || !bytes.Equal(gotBytes, keptBytes) {
		t.Errorf("Encode = %q, %v after its argument was cleared", gotBytes, encodeErr)
	}
	if decodeErr != nil || !slices.Equal(gotList, keptList) {
		t.Errorf("Decode = %v, %v after its argument was cleared", gotList, decodeErr)
	}
}

// TestResultsStay calls both functions again, and what they returned before must
// not follow (rule P2).
func TestResultsStay(t *testing.T) {
	l, b := both(shortSamples())
	gotBytes, encodeErr := code.Encode(l)
	gotList, decodeErr := code.Decode(b)
	for _, s := range samples() {
		expectBoth(t, []api.Ins{s.x, s.x}, form(s.text, s.text))
	}
	if encodeErr != nil || !bytes.Equal(gotBytes, b) {
		t.Errorf("Encode = %q, %v after other calls", gotBytes, encodeErr)
	}
	if decodeErr != nil || !slices.Equal(gotList, l) {
		t.Errorf("Decode = %v, %v after other calls", gotList, decodeErr)
	}
}

// TestLong has arguments that must be refused in time (rule P1).
func TestLong(t *testing.T) {
	const n = 1 << 24
	for _, c := range []byte{0, 1, 3, 40, 'n', ' ', 200, 255} {
		expectNone(t, bytes.Repeat([]byte{c}, n))
		for _, head := range []string{"\x00", "\x01\x03nop", "\x28\x03nop", "\x01\xc8"} {
			expectNone(t, append([]byte(head), bytes.Repeat([]byte{c}, n)...))
		}
	}
	expectNone(t, append([]byte{40}, bytes.Repeat([]byte("\x03nop"), n/4)...))
	long := strings.Repeat("a", n)
	expectError(t, []api.Ins{{Op: api.New, Class: long}}, api.ErrForm)
	expectError(t, slices.Repeat([]api.Ins{{Op: api.Call, Type: "(" + long, Class: long, Name: long}}, 40), api.ErrForm)
}

// TestSameAgain asks twice and with other calls in between, because rule P2 lets
// a result depend on nothing but the argument.
func TestSameAgain(t *testing.T) {
	for range 2 {
		for _, s := range samples() {
			expectBoth(t, []api.Ins{s.x, {Op: api.Return}}, form(s.text, "return"))
			expectError(t, []api.Ins{s.x, {}}, api.ErrForm)
			expectError(t, []api.Ins{s.x, {Op: api.Load, A: 9}}, api.ErrRange)
			expectNone(t, form(s.text, "x"))
			expectBoth(t, nil, []byte{0})
		}
	}
}

func ExampleEncode() {
	b, err := code.Encode(nil)
	fmt.Printf("%q %v\n", b, err)
	b, err = code.Encode([]api.Ins{{Op: api.Push, A: 5, Type: "I"}, {Op: api.Give}})
	fmt.Printf("%q %v\n", b, err)
	// Output:
	// "\x00" <nil>
	// "\x02\bpush 5 I\x04give" <nil>
}

func ExampleDecode() {
	fmt.Println(code.Decode([]byte("\x01\x08push 5 I")))
	fmt.Println(code.Decode([]byte("\x01\x04nul")))
	// Output:
	// [{2 5 0 I  }] <nil>
	// [] ErrForm
}

func FuzzDecode(f *testing.F) {
	for _, b := range forms() {
		f.Add(b)
	}
	f.Add([]byte("\x01\x09push 05 I"))
	f.Fuzz(expectAs)
}

// FuzzEncode places an instruction among ones that are right.
func FuzzEncode(f *testing.F) {
	for _, s := range samples() {
		f.Add(s.x.Op, s.x.A, s.x.B, s.x.Type, s.x.Class, s.x.Name, 1, 0)
	}
	f.Add(api.Load, 8, 0, "", "", "", 40, 39)
	f.Fuzz(func(t *testing.T, op, a, b int, kind, class, name string, n, at int) {
		if n < 1 || n > 50 || at < 0 || at >= n {
			return
		}
		x := api.Ins{Op: op, A: a, B: b, Type: kind, Class: class, Name: name}
		l := slices.Repeat([]api.Ins{{Op: api.Dup}}, n)
		l[at] = x
		text, err := ins.Text(x)
		if n > 40 {
			expectError(t, l, api.ErrFull)
		} else if err != nil {
			expectError(t, l, err)
		} else {
			texts := slices.Repeat([]string{"dup"}, n)
			texts[at] = text
			expectBoth(t, l, form(texts...))
		}
	})
}
