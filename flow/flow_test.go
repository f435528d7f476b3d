package flow_test

import (
	"fmt"
	"math"
	"math/rand"
	"slices"
	"strings"
	"testing"

	"coffeehouse/api"
	"coffeehouse/flow"
	"coffeehouse/ins"
)

// program returns the instructions with the given texts (chapter 4), between
// which there are semicolons.
func program(s string) []api.Ins {
	var l []api.Ins
	for _, text := range strings.Split(s, "; ") {
		x, err := ins.Parse(text)
		if err != nil {
			panic("no instruction: " + text)
		}
		l = append(l, x)
	}
	return l
}

// show writes code in few words, even if it is long or not valid.
func show(l []api.Ins) string {
	var texts []string
	for _, x := range l[:min(len(l), 50)] {
		text, err := ins.Text(x)
		if err != nil {
			text = fmt.Sprintf("%.60v", x)
		}
		texts = append(texts, text)
	}
	return fmt.Sprintf("%d: %s", len(l), strings.Join(texts, "; "))
}

// every has each operation.
// All of them together are fewer than MaxCode instructions.
func every() []api.Ins {
	return program("nop; push 1 I; push 99 J; null; load 1; store 7; pop; dup; swap; math 12 J; math 1 I; conv I; order; " +
		"if 0 5; ifnull 0; goto 0; new A; get A f; put A f; newarray I; length; aload J; astore LA;; cast [I; is LA;; " +
		"call ()V A f; calls (IJ)[I B_2 nop; return; give; throw")
}

// jumps has If (with different conditions), IfNull and Goto with a target.
func jumps(to int) []api.Ins {
	return []api.Ins{
		{Op: api.If, A: to},
		{Op: api.If, A: to, B: 5},
		{Op: api.IfNull, A: to},
		{Op: api.Goto, A: to},
	}
}

// of names the operation, if chapter 6 does, and gives the target of a jump.
func of(x api.Ins) (string, int) {
	names := map[int]string{12: "if", 13: "ifnull", 14: "goto", 26: "return", 27: "give", 28: "throw"}
	return names[x.Op], x.A
}

// wantCheck states the first paragraph of FL1: all that is wrong, and the error
// that the chapter names first.
func wantCheck(l []api.Ins) error {
	var invalid error
	target := false
	for _, x := range slices.Backward(l) {
		if err := ins.Check(x); err != nil {
			invalid = err
		}
		if name, to := of(x); slices.Contains([]string{"if", "ifnull", "goto"}, name) {
			target = target || to < 0 || len(l) <= to
		}
	}
	last := ""
	if len(l) > 0 {
		last, _ = of(l[len(l)-1])
	}
	switch {
	case len(l) > 40:
		return api.ErrFull
	case invalid != nil:
		return invalid
	case target:
		return api.ErrRange
	case !slices.Contains([]string{"goto", "return", "give", "throw"}, last):
		return api.ErrShape
	}
	return nil
}

// wantNext states the second paragraph, up to the errors.
func wantNext(x api.Ins, at int) []int {
	switch name, to := of(x); name {
	case "return", "give", "throw":
		return nil
	case "goto":
		return []int{to}
	case "if", "ifnull":
		if to == at+1 {
			return []int{at + 1}
		}
		return []int{at + 1, to}
	}
	return []int{at + 1}
}

// wantReach finds what is reached by one step more, as long as there is any.
func wantReach(l []api.Ins) []int {
	found := map[int]bool{0: true}
	for range l {
		for at, x := range l {
			if found[at] {
				for _, to := range wantNext(x, at) {
					found[to] = true
				}
			}
		}
	}
	var list []int
	for at := range l {
		if found[at] {
			list = append(list, at)
		}
	}
	return list
}

// expectCheck compares by ==, because rule P3 demands the error itself and not
// one that wraps it.
func expectCheck(t *testing.T, l []api.Ins, want error) {
	t.Helper()
	if err := flow.Check(l); err != want {
		t.Fatalf("Check(%s) = %v, want %v", show(l), err, want)
	}
}

// expectError asks all functions for the error of Check.
func expectError(t *testing.T, l []api.Ins, want error) {
	t.Helper()
	expectCheck(t, l, want)
	for _, at := range []int{0, 1, len(l) - 1, -1, len(l), math.MinInt, math.MaxInt} {
		if got, err := flow.Next(l, at); err != want || len(got) != 0 {
			t.Fatalf("Next(%s, %d) = %v, %v, want %v alone", show(l), at, got, err, want)
		}
	}
	if got, err := flow.Reach(l); err != want || len(got) != 0 {
		t.Fatalf("Reach(%s) = %v, %v, want %v alone", show(l), got, err, want)
	}
}

func expectNext(t *testing.T, l []api.Ins, at int, want ...int) {
	t.Helper()
	if got, err := flow.Next(l, at); err != nil || !slices.Equal(got, want) {
		t.Fatalf("Next(%s, %d) = %v, %v, want %v, nil", show(l), at, got, err, want)
	}
}

func expectReach(t *testing.T, l []api.Ins, want ...int) {
	t.Helper()
	if got, err := flow.Reach(l); err != nil || !slices.Equal(got, want) {
		t.Fatalf("Reach(%s) = %v, %v, want %v, nil", show(l), got, err, want)
	}
}

// expectNoIndex asks for the error of Next for valid code.
func expectNoIndex(t *testing.T, l []api.Ins, at int) {
	t.Helper()
	if got, err := flow.Next(l, at); err != api.ErrRange || len(got) != 0 {
		t.Fatalf("Next(%s, %d) = %v, %v, want ErrRange alone", show(l), at, got, err)
	}
}

// expectAll asks for all that FL1 says of the code.
func expectAll(t *testing.T, l []api.Ins) {
	t.Helper()
	if want := wantCheck(l); want != nil {
		expectError(t, l, want)
		return
	}
	expectCheck(t, l, nil)
	for at, x := range l {
		expectNext(t, l, at, wantNext(x, at)...)
	}
	for _, at := range []int{-1, len(l), len(l) + 1} {
		expectNoIndex(t, l, at)
	}
	expectReach(t, l, wantReach(l)...)
}

// expectValid asks for the same where the test has no doubt.
func expectValid(t *testing.T, l []api.Ins) {
	t.Helper()
	if want := wantCheck(l); want != nil {
		t.Fatalf("wantCheck(%s) = %v", show(l), want)
	}
	expectAll(t, l)
}

// around puts instructions of which each goes on before x, and one that does
// not behind the last place.
func around(x api.Ins, at, n int) []api.Ins {
	l := slices.Repeat([]api.Ins{{Op: api.Nop}}, n)
	l[n-1] = api.Ins{Op: api.Return}
	l[at] = x
	return l
}

// TestEvery makes sure that the function has what it promises.
func TestEvery(t *testing.T) {
	found := map[int]bool{}
	for _, x := range every() {
		found[x.Op] = true
	}
	if len(found) != 28 {
		t.Errorf("%d operations are tested here, want all 28", len(found))
	}
}

func TestValid(t *testing.T) {
	for _, s := range []string{
		"return", "give", "throw", "goto 0", "nop; return", "null; throw", "push 5 I; give", "goto 1; return", "return; return",
		"if 0 0; goto 0", "goto 2; nop; return", "ifnull 2; return; give", "return; if 0 3; throw",
	} {
		expectValid(t, program(s))
	}
}

func TestNoInstructions(t *testing.T) {
	expectError(t, nil, api.ErrShape)
	expectError(t, []api.Ins{}, api.ErrShape)
	expectError(t, program("return; return")[:0], api.ErrShape)
}

// TestLast has each operation as the last one of several.
func TestLast(t *testing.T) {
	for _, x := range every() {
		end := slices.Contains([]int{api.Goto, api.Return, api.Give, api.Throw}, x.Op)
		for _, n := range []int{1, 2, 3, 20, 39, 40} {
			l := around(x, n-1, n)
			if end {
				expectValid(t, l)
			} else {
				expectError(t, l, api.ErrShape)
			}
			for _, before := range every() {
				if n > 1 {
					l[n-2] = before
					if end {
						expectValid(t, l)
					} else {
						expectError(t, l, api.ErrShape)
					}
				}
			}
		}
	}
}

// TestFirstEnds has an end at each place but the last one.
func TestFirstEnds(t *testing.T) {
	for _, s := range []string{"return; nop", "goto 0; pop", "give; null", "throw; dup", "return; return; if 0 0", "goto 1; ifnull 0"} {
		expectError(t, program(s), api.ErrShape)
	}
	for n := 2; n <= 40; n++ {
		l := slices.Repeat(program("return"), n)
		l[n-1] = api.Ins{Op: api.Nop}
		expectError(t, l, api.ErrShape)
	}
}

// TestNumbersOfInstructions has valid code of every permitted length.
func TestNumbersOfInstructions(t *testing.T) {
	for n := 1; n <= 40; n++ {
		for _, x := range every() {
			for _, at := range []int{0, n / 2, n - 2} {
				if 0 <= at && at < n-1 {
					expectValid(t, around(x, at, n))
				}
			}
		}
		expectValid(t, slices.Repeat(program("return"), n))
		expectValid(t, slices.Repeat([]api.Ins{{Op: api.Goto, A: n - 1}}, n))
	}
}

// wrong is an instruction that is not valid, and its error.
type wrong struct {
	x    api.Ins
	want error
}

func wrongs() []wrong {
	return []wrong{
		{api.Ins{}, api.ErrForm},
		{api.Ins{Op: -1}, api.ErrForm},
		{api.Ins{Op: 29}, api.ErrForm},
		{api.Ins{Op: api.Return, A: 1}, api.ErrForm},
		{api.Ins{Op: api.Give, Name: "a"}, api.ErrForm},
		{api.Ins{Op: api.Throw, Type: "I"}, api.ErrForm},
		{api.Ins{Op: api.Goto, A: 50, B: 1}, api.ErrForm},
		{api.Ins{Op: api.IfNull, B: 1}, api.ErrForm},
		{api.Ins{Op: api.If, Type: "I"}, api.ErrForm},
		{api.Ins{Op: api.New, Class: "1"}, api.ErrForm},
		{api.Ins{Op: api.Push, A: 5}, api.ErrForm},
		{api.Ins{Op: api.Get, Class: strings.Repeat("a", 21), Name: "f"}, api.ErrForm},
		{api.Ins{Op: api.Load, A: 8}, api.ErrRange},
		{api.Ins{Op: api.Store, A: -1}, api.ErrRange},
		{api.Ins{Op: api.Push, A: 1 << 31, Type: "I"}, api.ErrRange},
		{api.Ins{Op: api.Math, A: 13, Type: "I"}, api.ErrRange},
		{api.Ins{Op: api.If, B: 6}, api.ErrRange},
		{api.Ins{Op: api.If, A: 41}, api.ErrRange},
		{api.Ins{Op: api.IfNull, A: -1}, api.ErrRange},
		{api.Ins{Op: api.Goto, A: math.MaxInt}, api.ErrRange},
		{api.Ins{Op: api.Goto, A: math.MinInt}, api.ErrRange},
	}
}

// TestWrongInstructions puts each of them at each place of code that is valid
// without it.
func TestWrongInstructions(t *testing.T) {
	for _, w := range wrongs() {
		for _, n := range []int{1, 2, 3, 5, 39, 40} {
			for at := range n {
				expectError(t, around(w.x, at, n), w.want)
			}
			expectError(t, slices.Repeat([]api.Ins{w.x}, n), w.want)
		}
	}
}

// TestFirstWrongInstruction has two wrong instructions at once: the error of the
// one that comes first counts.
func TestFirstWrongInstruction(t *testing.T) {
	found := map[[2]error]bool{}
	for _, v := range wrongs() {
		for _, w := range wrongs() {
			for _, at := range [][2]int{{0, 1}, {0, 39}, {38, 39}, {7, 20}, {1, 2}} {
				l := around(v.x, at[0], 40)
				l[at[1]] = w.x
				expectError(t, l, v.want)
			}
			expectError(t, []api.Ins{v.x, w.x}, v.want)
			found[[2]error{v.want, w.want}] = true
		}
	}
	if len(found) != 4 {
		t.Errorf("%d pairs of errors are found here, want all 4", len(found))
	}
}

// TestTooMany has more than 40 instructions, valid or not.
func TestTooMany(t *testing.T) {
	for _, n := range []int{41, 42, 100, 255, 256, 257, 296, 65536 + 40} {
		expectError(t, slices.Repeat(program("return"), n), api.ErrFull)
		expectError(t, slices.Repeat(program("nop"), n), api.ErrFull)
		expectError(t, make([]api.Ins, n), api.ErrFull)
		for _, at := range []int{0, 1, 20, 39, 40, n - 1} {
			expectError(t, around(api.Ins{Op: api.Goto, A: 40}, at, n), api.ErrFull)
			expectError(t, around(api.Ins{}, at, n), api.ErrFull)
			expectError(t, around(api.Ins{Op: api.Load, A: 8}, at, n), api.ErrFull)
		}
	}
	for _, w := range wrongs() {
		for at := range 41 {
			expectError(t, around(w.x, at, 41), api.ErrFull)
		}
	}
	for _, x := range every() {
		expectError(t, slices.Repeat([]api.Ins{x}, 41), api.ErrFull)
	}
}

// TestForty has the longest code there may be, with all that can be wrong.
func TestForty(t *testing.T) {
	expectValid(t, slices.Repeat(program("return"), 40))
	expectValid(t, around(api.Ins{Op: api.Nop}, 0, 40))
	expectValid(t, append(slices.Repeat(program("nop"), 39), api.Ins{Op: api.Goto, A: 39}))
	expectError(t, slices.Repeat(program("nop"), 40), api.ErrShape)
	expectError(t, around(api.Ins{Op: api.Goto, A: 40}, 3, 40), api.ErrRange)
	expectError(t, around(api.Ins{Op: api.Load, A: 8}, 39, 40), api.ErrRange)
	expectError(t, make([]api.Ins, 40), api.ErrForm)
}

// TestTargets has each target at each place of code of each length: up to the
// last index it is right, and ErrRange from there on.
func TestTargets(t *testing.T) {
	for _, n := range []int{1, 2, 3, 4, 10, 39, 40} {
		for at := range n {
			for to := -1; to <= 42; to++ {
				for _, x := range jumps(to) {
					l := around(x, at, n)
					switch {
					case to < 0 || to >= n:
						expectError(t, l, api.ErrRange)
					case at == n-1 && x.Op != api.Goto:
						expectError(t, l, api.ErrShape)
					default:
						expectCheck(t, l, nil)
					}
				}
			}
		}
	}
}

// TestOtherNumbers has operations whose A is no target, even where it is the
// number of the instructions or more.
func TestOtherNumbers(t *testing.T) {
	for _, a := range []int{0, 1, 2, 3, 4, 7} {
		for _, s := range []string{"push %d I", "push %d J", "load %d", "store %d"} {
			l := program(fmt.Sprintf(s, a) + "; return")
			expectValid(t, l)
			expectNext(t, l, 0, 1)
		}
	}
	expectValid(t, program("push -1 I; push 1000 J; math 12 I; return"))
	for b := range 6 {
		l := program(fmt.Sprintf("if 1 %d; return", b))
		expectValid(t, l)
		expectNext(t, l, 0, 1)
		expectNext(t, program(fmt.Sprintf("if 0 %d; return", b)), 0, 1, 0)
	}
}

// TestUnreachedIsChecked has errors in what cannot be reached.
func TestUnreachedIsChecked(t *testing.T) {
	for _, w := range wrongs() {
		expectError(t, append(program("return"), w.x), w.want)
		expectError(t, append(program("return"), w.x, api.Ins{Op: api.Return}), w.want)
	}
	expectError(t, program("return; goto 2"), api.ErrRange)
	expectError(t, program("goto 3; if 4 0; ifnull 0; return"), api.ErrRange)
	expectError(t, program("return; nop"), api.ErrShape)
}

// TestOrderOfErrors makes code of each combination of what may be wrong. The
// target stands at the first place or in front of the invalid instruction, too:
// every instruction is examined before any target.
func TestOrderOfErrors(t *testing.T) {
	for _, w := range wrongs() {
		expectError(t, append(program("goto 2"), w.x), w.want)
		expectError(t, append(program("nop; if 4 0; ifnull 20"), w.x), w.want)
		expectError(t, append([]api.Ins{w.x}, program("goto 2")...), w.want)
		expectError(t, append([]api.Ins{w.x}, program("nop; if 4 0; nop")...), w.want)
		expectError(t, append(program("nop"), w.x, api.Ins{Op: api.Nop}), w.want)
		for _, x := range jumps(40) {
			expectError(t, append(slices.Repeat([]api.Ins{x}, 39), w.x), w.want)
		}
	}
	for _, x := range jumps(5) {
		expectError(t, []api.Ins{x}, api.ErrRange)
		expectError(t, append([]api.Ins{x}, program("nop; nop")...), api.ErrRange)
		expectError(t, append(program("nop; nop"), x), api.ErrRange)
		expectError(t, append(program("if 0 0; ifnull 1"), x), api.ErrRange)
	}
	for n := 1; n <= 44; n++ {
		for mask := range 8 {
			l := around(api.Ins{Op: api.Return}, n-1, n)
			if mask&1 != 0 {
				l[n-1] = api.Ins{Op: api.Nop}
			}
			if mask&2 != 0 {
				l[0] = api.Ins{Op: api.IfNull, A: min(n, 40)}
			}
			if mask&4 != 0 {
				l[n/2] = api.Ins{Op: 29}
			}
			expectAll(t, l)
		}
	}
}

// TestNext has each operation at each place, as far as it may be there.
func TestNext(t *testing.T) {
	for _, x := range every() {
		for _, n := range []int{1, 2, 3, 5, 40} {
			for at := range n {
				l := around(x, at, n)
				if wantCheck(l) == nil {
					expectNext(t, l, at, wantNext(x, at)...)
				}
			}
		}
	}
}

// TestNextWrittenOut has all of a piece of code without the help of wantNext.
func TestNextWrittenOut(t *testing.T) {
	l := program("push 3 I; if 5 1; null; ifnull 4; give; nop; goto 9; load 2; throw; dup; if 0 3; goto 1; ifnull 12; store 1; return")
	for at, want := range [][]int{{1}, {2, 5}, {3}, {4}, nil, {6}, {9}, {8}, nil, {10}, {11, 0}, {1}, {13, 12}, {14}, nil} {
		expectNext(t, l, at, want...)
	}
	expectReach(t, l, 0, 1, 2, 3, 4, 5, 6, 9, 10, 11)
}

// TestNextOfJumps has a jump at the first, middle and last index to each index:
// to the following one, to itself, backwards and forwards.
func TestNextOfJumps(t *testing.T) {
	for _, n := range []int{2, 3, 5, 20, 40} {
		for at := range n - 1 {
			for to := range n {
				want := []int{at + 1, to}
				if to == at+1 {
					want = []int{at + 1}
				}
				expectNext(t, around(api.Ins{Op: api.If, A: to, B: 2}, at, n), at, want...)
				expectNext(t, around(api.Ins{Op: api.IfNull, A: to}, at, n), at, want...)
			}
		}
		for at := range n {
			for to := range n {
				expectNext(t, around(api.Ins{Op: api.Goto, A: to}, at, n), at, to)
			}
		}
	}
	expectNext(t, program("goto 0"), 0, 0)
}

// TestNextOfUnreached asks for instructions that cannot be reached.
func TestNextOfUnreached(t *testing.T) {
	l := program("goto 4; nop; if 0 0; return; give")
	expectNext(t, l, 1, 2)
	expectNext(t, l, 2, 3, 0)
	expectNext(t, l, 3)
	expectReach(t, l, 0, 4)
}

func TestNoIndex(t *testing.T) {
	for _, n := range []int{1, 2, 3, 39, 40} {
		l := around(api.Ins{Op: api.Goto}, n-1, n)
		for _, at := range []int{-1, -2, -n, n, n + 1, 2 * n, 40, 41, 255, 256, 1 << 32, 1<<32 - 1, -1 << 32, math.MinInt, math.MaxInt} {
			if at < 0 || at >= n {
				expectNoIndex(t, l, at)
			}
		}
		for at := range n {
			expectNext(t, l, at, wantNext(l[at], at)...)
		}
	}
}

// TestNoIndexAndError has an error of Check and no index: expectError asks for
// several, and the error of Check comes first.
func TestNoIndexAndError(t *testing.T) {
	expectError(t, nil, api.ErrShape)
	expectError(t, program("nop"), api.ErrShape)
	expectError(t, []api.Ins{{}}, api.ErrForm)
	expectError(t, slices.Repeat(program("return"), 41), api.ErrFull)
}

func TestReach(t *testing.T) {
	for s, want := range map[string][]int{
		// without jumps
		"return":                   {0},
		"give":                     {0},
		"throw":                    {0},
		"nop; return":              {0, 1},
		"push 1 I; pop; nop; give": {0, 1, 2, 3},
		"return; return":           {0},
		"null; throw; nop; return": {0, 1},
		"give; pop; throw":         {0},
		// with loops
		"goto 0":                         {0},
		"nop; goto 0":                    {0, 1},
		"nop; goto 1":                    {0, 1},
		"if 0 0; return":                 {0, 1},
		"nop; ifnull 0; goto 1":          {0, 1, 2},
		"goto 2; goto 0; goto 1":         {0, 1, 2},
		"goto 3; return; goto 1; goto 2": {0, 1, 2, 3},
		"if 3 0; if 0 1; goto 0; goto 1": {0, 1, 2, 3},
		"goto 2; return; nop; if 2 4; ifnull 1; throw": {0, 1, 2, 3, 4, 5},
		// with what cannot be reached, in front of, between and behind others
		"goto 2; nop; return":                                 {0, 2},
		"goto 3; nop; nop; return":                            {0, 3},
		"goto 2; return; goto 4; return; give":                {0, 2, 4},
		"ifnull 3; return; nop; throw; nop; give":             {0, 1, 3},
		"goto 1; return; nop; return":                         {0, 1},
		"if 2 0; return; return; return":                      {0, 1, 2},
		"goto 3; goto 1; goto 1; goto 5; goto 4; return":      {0, 3, 5},
		"return; goto 0; if 1 0; goto 2":                      {0},
		"goto 4; goto 2; goto 1; nop; nop; ifnull 4; goto 6":  {0, 4, 5, 6},
		"goto 5; give; throw; if 1 3; return; if 2 0; goto 4": {0, 2, 4, 5, 6},
	} {
		expectReach(t, program(s), want...)
		expectAll(t, program(s))
	}
}

// TestReachOfMany has chains through all of the longest code, which are followed
// forwards, backwards and to and fro.
func TestReachOfMany(t *testing.T) {
	all := make([]int, 40)
	back := make([]api.Ins, 40)
	around := make([]api.Ins, 40)
	both := make([]api.Ins, 40)
	for i := range 40 {
		all[i] = i
		back[i] = api.Ins{Op: api.Goto, A: max(0, i-1)}
		around[i] = api.Ins{Op: api.Goto, A: (i + 7) % 40}
		both[i] = api.Ins{Op: api.If, A: 39 - i}
	}
	back[0].A, both[39] = 39, api.Ins{Op: api.Return}
	for _, l := range [][]api.Ins{back, around, both, append(slices.Repeat(program("if 0 0"), 39), program("goto 5")...)} {
		expectReach(t, l, all...)
		expectAll(t, l)
	}
	back[20].A = 0
	expectReach(t, back, append([]int{0}, all[20:]...)...)
	around[35] = api.Ins{Op: api.Throw}
	expectReach(t, around, 0, 7, 14, 21, 28, 35)
}

// TestEveryFewInstructions leaves out no code of up to five instructions of the
// kinds that matter, with targets up to the number of instructions.
func TestEveryFewInstructions(t *testing.T) {
	for n := range 6 {
		choice := program("nop; return")
		for to := range n + 1 {
			choice = append(choice, api.Ins{Op: api.Goto, A: to}, api.Ins{Op: api.IfNull, A: to})
		}
		l := make([]api.Ins, n)
		var fill func(int)
		fill = func(at int) {
			if at == n {
				expectAll(t, l)
				return
			}
			for _, x := range choice {
				l[at] = x
				fill(at + 1)
			}
		}
		fill(0)
	}
}

// TestManyInstructions has longer code of every operation, always the same.
func TestManyInstructions(t *testing.T) {
	r := rand.New(rand.NewSource(6))
	choice, ends := every(), program("return; give; throw; goto 0")
	valid := 0
	for range 10000 {
		n := 1 + r.Intn(42)
		l := make([]api.Ins, n)
		for at := range l {
			l[at] = some(r, choice, n)
		}
		if r.Intn(10) > 0 {
			l[n-1] = ends[r.Intn(4)]
		}
		expectAll(t, l)
		if wantCheck(l) == nil {
			valid++
		}
	}
	if valid < 3000 || valid > 9000 {
		t.Errorf("%d of 10000 pieces of code are valid", valid)
	}
}

// some returns a jump, one of the choice, or seldom a wrong instruction.
func some(r *rand.Rand, choice []api.Ins, n int) api.Ins {
	switch r.Intn(400) {
	case 0:
		return wrongs()[r.Intn(len(wrongs()))].x
	case 1:
		return jumps(r.Intn(41))[r.Intn(4)]
	}
	if r.Intn(3) == 0 {
		return jumps(r.Intn(min(n, 40)))[r.Intn(4)]
	}
	return choice[r.Intn(len(choice))]
}

// TestArgumentsKept gives a list with room behind its end, because an append
// within the package would write there (rule P2).
func TestArgumentsKept(t *testing.T) {
	full := append(every(), every()...)
	for n := range len(full) + 1 {
		l := slices.Clone(full)
		for range 2 {
			expectAll(t, l[:n])
		}
		if !slices.Equal(l, full) {
			t.Fatalf("the argument has been changed to %s", show(l))
		}
	}
}

// TestResultsAreNew changes all of what one call has returned and asks again
// (rule P2).
func TestResultsAreNew(t *testing.T) {
	l := program("if 2 0; ifnull 4; nop; goto 5; return; give")
	kept := slices.Clone(l)
	for range 3 {
		for at, want := range [][]int{{1, 2}, {2, 4}, {3}, {5}, nil, nil} {
			got, err := flow.Next(l, at)
			if err != nil || !slices.Equal(got, want) {
				t.Fatalf("Next(%s, %d) = %v, %v, want %v", show(l), at, got, err, want)
			}
			spoil(got)
		}
		got, err := flow.Reach(l)
		if err != nil || !slices.Equal(got, []int{0, 1, 2, 3, 4, 5}) {
			t.Fatalf("Reach(%s) = %v, %v", show(l), got, err)
		}
		spoil(got)
		if !slices.Equal(l, kept) {
			t.Fatalf("the argument has been changed to %s", show(l))
		}
	}
}

// spoil writes to all memory behind a list.
func spoil(l []int) {
	l = l[:cap(l)]
	for i := range l {
		l[i] = -7
	}
}

// TestResultsStay asks for something else and changes the argument, and what was
// returned before must not follow (rule P2).
func TestResultsStay(t *testing.T) {
	l := program("goto 3; nop; nop; ifnull 5; return; give")
	next, nextError := flow.Next(l, 3)
	reach, reachError := flow.Reach(l)
	for n := 1; n <= 40; n++ {
		expectAll(t, slices.Repeat(program("goto 0"), n))
		expectAll(t, append(slices.Repeat(program("if 0 0"), n-1), program("return")...))
	}
	clear(l)
	expectError(t, l, api.ErrForm)
	if nextError != nil || !slices.Equal(next, []int{4, 5}) {
		t.Errorf("Next = %v, %v after other calls", next, nextError)
	}
	if reachError != nil || !slices.Equal(reach, []int{0, 3, 4, 5}) {
		t.Errorf("Reach = %v, %v after other calls", reach, reachError)
	}
}

// TestLong has arguments that must be refused in time (rule P1).
func TestLong(t *testing.T) {
	expectError(t, make([]api.Ins, 1<<22), api.ErrFull)
	long := strings.Repeat("a", 1<<22)
	expectError(t, slices.Repeat([]api.Ins{{Op: api.Call, Type: "(" + long, Class: long, Name: long}}, 40), api.ErrForm)
	expectError(t, append(program("goto 1"), api.Ins{Op: api.New, Class: long}), api.ErrForm)
}

func ExampleCheck() {
	fmt.Println(flow.Check([]api.Ins{{Op: api.Return}}))
	fmt.Println(flow.Check([]api.Ins{{Op: api.Goto, A: 1}}))
	fmt.Println(flow.Check([]api.Ins{{Op: api.Nop}}))
	// Output:
	// <nil>
	// ErrRange
	// ErrShape
}

func ExampleNext() {
	fmt.Println(flow.Next([]api.Ins{{Op: api.IfNull, A: 2}, {Op: api.Nop}, {Op: api.Return}}, 0))
	// Output: [1 2] <nil>
}

func ExampleReach() {
	fmt.Println(flow.Reach([]api.Ins{{Op: api.Return}}))
	fmt.Println(flow.Reach([]api.Ins{{Op: api.Goto, A: 2}, {Op: api.Nop}, {Op: api.Return}}))
	// Output:
	// [0] <nil>
	// [0 2] <nil>
}

// FuzzCode makes an instruction of each two bytes.
func FuzzCode(f *testing.F) {
	f.Add([]byte{28, 0})
	f.Add([]byte{100, 2, 103, 0, 29, 0})
	f.Add([]byte{103, 40, 200, 0})
	f.Fuzz(func(t *testing.T, b []byte) {
		var l []api.Ins
		for i := 0; i+1 < len(b) && len(l) < 50; i += 2 {
			switch n := int(b[i]); {
			case n < 100:
				l = append(l, every()[n%len(every())])
			case n < 200:
				l = append(l, jumps(int(int8(b[i+1])))[n%4])
			default:
				l = append(l, wrongs()[n%len(wrongs())].x)
			}
		}
		expectAll(t, l)
	})
}
