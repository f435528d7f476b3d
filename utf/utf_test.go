package utf_test

import (
	"bytes"
	"encoding/binary"
	"fmt"
	"slices"
	"strconv"
	"testing"
	"unicode/utf16"
	"unicode/utf8"

	"coffeehouse/api"
	"coffeehouse/utf"
)

const units = 1 << 16 // the number of units there are

// encoding states UT1 once more, with nothing in common with the package: it
// cuts the 16 binary digits of the unit into the parts that the chapter names.
func encoding(u uint16) []byte {
	bits := fmt.Sprintf("%016b", u)
	switch {
	case 0x1 <= u && u <= 0x7f:
		return digits("0" + bits[9:])
	case u == 0 || 0x80 <= u && u <= 0x7ff:
		return digits("110"+bits[5:10], "10"+bits[10:])
	default:
		return digits("1110"+bits[:4], "10"+bits[4:10], "10"+bits[10:])
	}
}

// digits returns the bytes that are given by eight binary digits each.
func digits(list ...string) []byte {
	var b []byte
	for _, s := range list {
		n, err := strconv.ParseUint(s, 2, 8)
		if err != nil || len(s) != 8 {
			panic("not a byte: " + s)
		}
		b = append(b, byte(n))
	}
	return b
}

// book finds units by their encodings.
type book map[string]uint16

func newBook() book {
	m := book{}
	for u := range units {
		m[string(encoding(uint16(u)))] = uint16(u)
	}
	return m
}

// decode tries every length at the beginning of b, and looks up what is there.
func (m book) decode(b []byte) ([]uint16, bool) {
	if len(b) == 0 {
		return nil, true
	}
	for n := 1; n <= len(b) && n <= 3; n++ {
		if u, ok := m[string(b[:n])]; ok {
			if rest, ok := m.decode(b[n:]); ok {
				return append([]uint16{u}, rest...), true
			}
		}
	}
	return nil, false
}

func expectEncode(t *testing.T, l []uint16, want []byte) {
	t.Helper()
	if got := utf.Encode(l); !bytes.Equal(got, want) {
		t.Errorf("Encode(%x) = %x, want %x", l, got, want)
	}
}

func expectDecode(t *testing.T, b []byte, want []uint16) {
	t.Helper()
	if got, err := utf.Decode(b); err != nil || !slices.Equal(got, want) {
		t.Errorf("Decode(%x) = %x, %v, want %x, nil", b, got, err, want)
	}
}

// expectNone compares with api.ErrForm by ==, because rule P3 demands the error
// itself and not one that wraps it.
func expectNone(t *testing.T, b []byte) {
	t.Helper()
	if got, err := utf.Decode(b); err != api.ErrForm || len(got) != 0 {
		t.Errorf("Decode(%x) = %x, %v, want ErrForm alone", b, got, err)
	}
}

// expectBoth asks for both directions.
func expectBoth(t *testing.T, l []uint16, b []byte) {
	t.Helper()
	expectEncode(t, l, b)
	expectDecode(t, b, l)
}

// TestLimits has the least and the greatest unit of each length, the unit 0,
// the surrogates, and the neighbours of all these.
func TestLimits(t *testing.T) {
	for _, c := range []struct {
		unit uint16
		want []byte
	}{
		{0x0, []byte{0xc0, 0x80}},
		{0x1, []byte{0x01}},
		{0x2, []byte{0x02}},
		{0x41, []byte{0x41}},
		{0x7e, []byte{0x7e}},
		{0x7f, []byte{0x7f}},
		{0x80, []byte{0xc2, 0x80}},
		{0x81, []byte{0xc2, 0x81}},
		{0xbf, []byte{0xc2, 0xbf}},
		{0xc0, []byte{0xc3, 0x80}},
		{0xe9, []byte{0xc3, 0xa9}},
		{0xff, []byte{0xc3, 0xbf}},
		{0x100, []byte{0xc4, 0x80}},
		{0x7fe, []byte{0xdf, 0xbe}},
		{0x7ff, []byte{0xdf, 0xbf}},
		{0x800, []byte{0xe0, 0xa0, 0x80}},
		{0x801, []byte{0xe0, 0xa0, 0x81}},
		{0xfff, []byte{0xe0, 0xbf, 0xbf}},
		{0x1000, []byte{0xe1, 0x80, 0x80}},
		{0x20ac, []byte{0xe2, 0x82, 0xac}},
		{0x7fff, []byte{0xe7, 0xbf, 0xbf}},
		{0x8000, []byte{0xe8, 0x80, 0x80}},
		{0xd7ff, []byte{0xed, 0x9f, 0xbf}},
		{0xd800, []byte{0xed, 0xa0, 0x80}},
		{0xdbff, []byte{0xed, 0xaf, 0xbf}},
		{0xdc00, []byte{0xed, 0xb0, 0x80}},
		{0xdfff, []byte{0xed, 0xbf, 0xbf}},
		{0xe000, []byte{0xee, 0x80, 0x80}},
		{0xfeff, []byte{0xef, 0xbb, 0xbf}},
		{0xfffd, []byte{0xef, 0xbf, 0xbd}},
		{0xfffe, []byte{0xef, 0xbf, 0xbe}},
		{0xffff, []byte{0xef, 0xbf, 0xbf}},
	} {
		expectBoth(t, []uint16{c.unit}, c.want)
	}
}

func TestEveryUnit(t *testing.T) {
	var all []uint16
	var long []byte
	for i := range units {
		u := uint16(i)
		want := encoding(u)
		expectBoth(t, []uint16{u}, want)
		expectBoth(t, []uint16{u, 0, u}, slices.Concat(want, []byte{0xc0, 0x80}, want))
		all = append(all, u)
		long = append(long, want...)
	}
	if !bytes.Equal(utf.Encode(all), long) {
		t.Error("Encode of all units is not the encodings of each, one after the other")
	}
	if l, err := utf.Decode(long); err != nil || !slices.Equal(l, all) {
		t.Errorf("Decode does not return all units, but %d, %v", len(l), err)
	}
	expectNone(t, append(long, 0xe0))
}

// TestLikeUTF8 compares with the library where the two encodings are the same:
// at all units but 0 and the surrogates.
func TestLikeUTF8(t *testing.T) {
	for r := rune(1); r < units; r++ {
		if !utf16.IsSurrogate(r) {
			expectBoth(t, []uint16{uint16(r)}, utf8.AppendRune(nil, r))
		}
	}
}

func TestNothing(t *testing.T) {
	expectEncode(t, nil, nil)
	expectEncode(t, []uint16{}, nil)
	expectDecode(t, nil, nil)
	expectDecode(t, []byte{}, nil)
}

// TestSurrogates has pairs, which do not make one character here, in their
// order and in the other one, and surrogates alone.
func TestSurrogates(t *testing.T) {
	expectBoth(t, []uint16{0xd83d, 0xde00}, []byte{0xed, 0xa0, 0xbd, 0xed, 0xb8, 0x80})
	expectBoth(t, []uint16{0xde00, 0xd83d}, []byte{0xed, 0xb8, 0x80, 0xed, 0xa0, 0xbd})
	expectBoth(t, []uint16{0xd800, 0xd800}, []byte{0xed, 0xa0, 0x80, 0xed, 0xa0, 0x80})
	expectBoth(t, []uint16{0xdc00, 65}, []byte{0xed, 0xb0, 0x80, 65})
	for u := uint16(0xd800); u <= 0xdfff; u++ {
		expectBoth(t, []uint16{0xd800, u, 0xdfff}, slices.Concat(encoding(0xd800), encoding(u), encoding(0xdfff)))
	}
}

// TestFourBytes has what UTF-8, unlike UT1, encodes in four bytes.
func TestFourBytes(t *testing.T) {
	for r := rune(units); r <= utf8.MaxRune; r += 0x3f {
		expectNone(t, utf8.AppendRune(nil, r))
	}
	expectNone(t, utf8.AppendRune(nil, utf8.MaxRune))
	expectNone(t, []byte{0xf0, 0x80, 0x80, 0x80})
	expectNone(t, []byte{0xf0, 0x80, 0x81, 0x81})
	expectNone(t, []byte{0xf7, 0xbf, 0xbf, 0xbf})
	expectNone(t, []byte{0xf8, 0x88, 0x80, 0x80, 0x80})
	expectNone(t, []byte{0xfc, 0x84, 0x80, 0x80, 0x80, 0x80})
}

// TestMixed has units of all lengths beside each other.
func TestMixed(t *testing.T) {
	list := []uint16{0, 1, 0x7f, 0x80, 0x7ff, 0x800, 0xd800, 0xdfff, 0xffff}
	for _, a := range list {
		for _, b := range list {
			for _, c := range list {
				expectBoth(t, []uint16{a, b, c}, slices.Concat(encoding(a), encoding(b), encoding(c)))
			}
		}
	}
	expectBoth(t, []uint16{0, 65}, []byte{0xc0, 0x80, 65})
	expectBoth(t, []uint16{65, 66}, []byte("AB"))
}

// wrong returns bytes that are the encoding of no units.
func wrong() [][]byte {
	return [][]byte{
		// the byte 0, which the unit 0 is not encoded as
		{0x00}, {0x00, 0x00}, {0x00, 0x80}, {0xc0, 0x00}, {0xe0, 0x00, 0x80}, {0xe0, 0xa0, 0x00},
		// cut short
		{0xc0}, {0xc2}, {0xc3}, {0xdf}, {0xe0}, {0xe0, 0xa0}, {0xe2, 0x82}, {0xed, 0xa0}, {0xef}, {0xef, 0xbf},
		{0xc3, 0x41}, {0xe2, 0x82, 0x41}, {0xe2, 0xc3, 0xa9}, {0xe2, 0x82, 0xc3, 0xa9}, {0xc3, 0xc3, 0xa9},
		// too long for their unit
		{0xc0, 0x81}, {0xc1, 0x80}, {0xc1, 0x81}, {0xc1, 0xbf}, {0xe0, 0x80, 0x80}, {0xe0, 0x80, 0x81}, {0xe0, 0x81, 0x81},
		{0xe0, 0x82, 0x80}, {0xe0, 0x9f, 0xbf}, {0xc0, 0xbf}, {0xe0, 0x81, 0xbf},
		// a wrong first byte
		{0x80}, {0xbf}, {0x80, 0x80}, {0xa9, 0xc3}, {0x80, 0xc0}, {0xbf, 0xbf, 0xbf}, {0xf0}, {0xf0, 0x80}, {0xf1, 0xa0, 0x80},
		{0xf8, 0x80, 0x80}, {0xfc, 0x80}, {0xfe}, {0xff}, {0xfe, 0xff}, {0xff, 0xfe}, {0xff, 0xbf, 0xbf}, {0xf2, 0x82, 0xac},
		// a wrong following byte
		{0xc3, 0x29}, {0xc3, 0xe9}, {0xc2, 0x7f}, {0xc2, 0xc0}, {0xc2, 0xff}, {0xe0, 0x20, 0x80}, {0xe0, 0xe0, 0x80},
		{0xe2, 0x02, 0xac}, {0xe2, 0x82, 0x2c}, {0xe2, 0x82, 0xec}, {0xe2, 0x82, 0x7f}, {0xe2, 0x82, 0xc0}, {0xe2, 0xc2, 0xac},
		// a byte too many
		{0xc0, 0x80, 0x80}, {0xc3, 0xa9, 0xa9}, {0xe2, 0x82, 0xac, 0xac}, {0x41, 0x80},
	}
}

// TestWrong puts the wrong bytes alone, and before and behind right ones.
func TestWrong(t *testing.T) {
	for _, b := range wrong() {
		expectNone(t, b)
		for _, u := range []uint16{0, 0x41, 0xe9, 0x20ac, 0xd800} {
			right := encoding(u)
			expectNone(t, slices.Concat(right, b))
			expectNone(t, slices.Concat(b, right))
			expectNone(t, slices.Concat(right, b, right))
		}
	}
}

// TestCutShort takes off the last or the first byte of each encoding of more
// than one byte.
func TestCutShort(t *testing.T) {
	for u := range units {
		b := encoding(uint16(u))
		for i := 1; i < len(b); i++ {
			expectNone(t, b[:i])
			expectNone(t, b[i:])
			expectNone(t, slices.Concat(b[:i], b))
			expectNone(t, slices.Concat(b, b[:i], []byte("A")))
		}
	}
}

// TestTooLong has each unit in more bytes than it has, where there are bits
// enough, and 0 in one and in three.
func TestTooLong(t *testing.T) {
	expectNone(t, []byte{0})
	for u := range 0x800 {
		bits := fmt.Sprintf("%016b", u)
		if u != 0 && u < 0x80 {
			expectNone(t, digits("110"+bits[5:10], "10"+bits[10:]))
		}
		expectNone(t, digits("1110"+bits[:4], "10"+bits[4:10], "10"+bits[10:]))
	}
	for u := range units {
		bits := fmt.Sprintf("%016b", u)
		expectNone(t, digits("11110000", "10"+bits[:4]+"00", "10"+bits[4:10], "10"+bits[10:]))
		expectNone(t, digits("11110000", "1000"+bits[:4], "10"+bits[4:10], "10"+bits[10:]))
	}
}

// TestEveryShortText leaves out no list of up to three bytes.
func TestEveryShortText(t *testing.T) {
	m := newBook()
	b := make([]byte, 3)
	found := [4]int{}
	for i := range 1 << 24 {
		b[0], b[1], b[2] = byte(i), byte(i>>8), byte(i>>16)
		for n := 3; n > 0 && (n == 3 || b[n] == 0); n-- {
			got, err := utf.Decode(b[:n])
			want, ok := m.decode(b[:n])
			if ok != (err == nil) || !slices.Equal(got, want) || err != nil && err != api.ErrForm {
				t.Fatalf("Decode(%x) = %x, %v, want %x, %v", b[:n], got, err, want, ok)
			}
			if ok {
				found[n]++
			}
		}
	}
	// 127 units have one byte, 1921 two, and 63488 three.
	if want := [4]int{0, 127, 127*127 + 1921, 127*127*127 + 2*127*1921 + 63488}; found != want {
		t.Errorf("numbers of encodings of each length: %v, want %v", found, want)
	}
}

// TestEveryByte puts each of the 256 bytes at each place of an encoding, both
// instead of a byte and in between.
func TestEveryByte(t *testing.T) {
	m := newBook()
	for _, l := range [][]uint16{{0}, {0x41}, {0xe9}, {0x20ac}, {0xd83d, 0xde00}, {0x41, 0, 0xe9, 0xffff, 0x7f}} {
		b := utf.Encode(l)
		for i := range len(b) + 1 {
			for c := range 256 {
				expectAs(t, m, slices.Insert(slices.Clone(b), i, byte(c)))
				if i < len(b) {
					put := slices.Clone(b)
					put[i] = byte(c)
					expectAs(t, m, put)
				}
			}
		}
	}
}

// expectAs decodes as the book does, and what it decodes it encodes again.
func expectAs(t *testing.T, m book, b []byte) {
	t.Helper()
	want, ok := m.decode(b)
	if !ok {
		expectNone(t, b)
		return
	}
	expectBoth(t, want, b)
}

// TestArgumentsKept gives lists with room behind their ends, because an append
// within the package would write there (rule P2).
func TestArgumentsKept(t *testing.T) {
	l := []uint16{0, 0x41, 0xe9, 0x20ac, 0xd800, 7, 8, 9}
	b := []byte{0xc0, 0x80, 0x41, 0xc3, 0xa9, 0xe2, 0x82, 0xac, 7, 8, 9}
	keptUnits, keptBytes := slices.Clone(l), slices.Clone(b)
	for range 2 {
		expectBoth(t, l[:4], b[:8])
		expectNone(t, b[:7])
		if !slices.Equal(l, keptUnits) || !bytes.Equal(b, keptBytes) {
			t.Fatalf("the arguments have been changed to %x and %x", l, b)
		}
	}
}

// TestResultsAreNew changes what one call has returned and asks again, and it
// changes an argument after the call (rule P2).
func TestResultsAreNew(t *testing.T) {
	l := []uint16{0, 0x41, 0xe9, 0x20ac}
	b := []byte{0xc0, 0x80, 0x41, 0xc3, 0xa9, 0xe2, 0x82, 0xac}
	for range 3 {
		gotBytes := utf.Encode(l)
		gotUnits, err := utf.Decode(b)
		if !bytes.Equal(gotBytes, b) || !slices.Equal(gotUnits, l) || err != nil {
			t.Fatalf("Encode = %x, Decode = %x, %v", gotBytes, gotUnits, err)
		}
		clear(append(gotBytes, 1))
		clear(gotBytes)
		clear(append(gotUnits, 1))
		clear(gotUnits)
	}
	ascii := []byte("AB")
	got, err := utf.Decode(ascii)
	clear(ascii)
	if !slices.Equal(got, []uint16{65, 66}) || err != nil {
		t.Errorf("Decode = %x, %v after its argument was cleared", got, err)
	}
	list := []uint16{65, 66}
	text := utf.Encode(list)
	clear(list)
	if string(text) != "AB" {
		t.Errorf("Encode = %x after its argument was cleared", text)
	}
}

// TestLong has lists whose copying for each unit would not end in time (rule
// P1), right to the last byte and wrong only there.
func TestLong(t *testing.T) {
	for _, u := range []uint16{0, 0x41, 0xe9, 0x20ac, 0xdfff} {
		l := slices.Repeat([]uint16{u}, 1<<20)
		b := bytes.Repeat(encoding(u), 1<<20)
		if !bytes.Equal(utf.Encode(l), b) {
			t.Errorf("Encode of a long list of %x is wrong", u)
		}
		if got, err := utf.Decode(b); err != nil || !slices.Equal(got, l) {
			t.Errorf("Decode of a long list of %x is wrong: %v", u, err)
		}
		for _, end := range []byte{0x00, 0x80, 0xc3, 0xe2, 0xff} {
			if got, err := utf.Decode(append(b, end)); err != api.ErrForm || len(got) != 0 {
				t.Errorf("Decode of a long list of %x with %x at the end: %d units, %v", u, end, len(got), err)
			}
		}
	}
}

func ExampleEncode() {
	fmt.Printf("%x\n", utf.Encode([]uint16{0}))
	fmt.Printf("%x\n", utf.Encode([]uint16{0x41, 0xe9, 0x20ac}))
	// Output:
	// c080
	// 41c3a9e282ac
}

func ExampleDecode() {
	fmt.Println(utf.Decode([]byte{0xc0, 0x80, 65}))
	fmt.Println(utf.Decode([]byte{0}))
	// Output:
	// [0 65] <nil>
	// [] ErrForm
}

func FuzzDecode(f *testing.F) {
	for _, b := range wrong() {
		f.Add(b)
	}
	f.Add([]byte{})
	f.Add([]byte{0xc0, 0x80, 0x41, 0xc3, 0xa9, 0xe2, 0x82, 0xac})
	m := newBook()
	f.Fuzz(func(t *testing.T, b []byte) {
		expectAs(t, m, b)
	})
}

// FuzzEncode takes each unit from two bytes.
func FuzzEncode(f *testing.F) {
	f.Add([]byte{0x00, 0x00, 0x00, 0x41, 0x00, 0xe9, 0x20, 0xac})
	f.Add([]byte{0xd8, 0x3d, 0xde, 0x00})
	f.Fuzz(func(t *testing.T, pairs []byte) {
		var l []uint16
		var want []byte
		for ; len(pairs) >= 2; pairs = pairs[2:] {
			u := binary.BigEndian.Uint16(pairs)
			l = append(l, u)
			want = append(want, encoding(u)...)
		}
		expectBoth(t, l, want)
	})
}
