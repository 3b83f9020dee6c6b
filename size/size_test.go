package size_test

import (
	"math"
	"slices"
	"testing"

	"jettison/api"
	"jettison/size"
)

// wantClasses is written out here, not asked of the package, so that a turned table is seen.
func wantClasses() []int {
	return []int{16, 32, 64, 128, 256, 512, 1024}
}

// refused: numbers that no class holds, on both sides.
func refused() []int {
	return []int{-1, -2, -15, -16, -17, -1024, -1025, math.MinInt32, math.MinInt + 1, math.MinInt,
		1025, 1026, 2047, 2048, 2049, math.MaxInt32, math.MaxInt - 1, math.MaxInt}
}

// expected: the class of n, and its place, by the chapter's words alone.
func expected(n int) (round, class int, ok bool) {
	if n >= 0 {
		for c, w := range wantClasses() {
			if w >= n {
				return w, c, true
			}
		}
	}
	return 0, -1, false
}

func checkOne(t *testing.T, n int) {
	t.Helper()
	round, class, ok := expected(n)
	if got, gotOK := size.Round(n); got != round || gotOK != ok {
		t.Errorf("Round(%d) = %d, %t; want %d, %t", n, got, gotOK, round, ok)
	}
	if got := size.Class(n); got != class {
		t.Errorf("Class(%d) = %d; want %d", n, got, class)
	}
}

func checkSum(t *testing.T, name string, l []int, want int, ok bool) {
	t.Helper()
	if got, gotOK := size.Sum(l...); got != want || gotOK != ok {
		t.Errorf("%s: Sum = %d, %t; want %d, %t", name, got, gotOK, want, ok)
	}
}

// P1.1: which classes there are.
func TestClasses(t *testing.T) {
	got := size.Classes()
	if !slices.Equal(got, wantClasses()) {
		t.Errorf("Classes() = %v", got)
	}
	if last := got[len(got)-1]; last != api.MaxBlock {
		t.Errorf("the last class is %d, MaxBlock is %d", last, api.MaxBlock)
	}
}

// P1.1, P3: what Classes answers is the caller's own, spare room too.
func TestClassesAreNewMemory(t *testing.T) {
	first, second := size.Classes(), size.Classes()
	whole := first[:cap(first)]
	for i := range whole {
		whole[i] = -7
	}
	_ = append(first[:3], 1, 2, 3, 4, 5, 6)
	if !slices.Equal(second, wantClasses()) {
		t.Errorf("an answer given earlier has changed: %v", second)
	}
	if got := size.Classes(); !slices.Equal(got, wantClasses()) {
		t.Errorf("Classes() after the caller wrote into an answer: %v", got)
	}
	for n := -1; n <= 1025; n++ {
		checkOne(t, n)
	}
}

// P1.1: the chapter's example.
func TestRoundExample(t *testing.T) {
	if got, ok := size.Round(17); got != 32 || !ok {
		t.Errorf("Round(17) = %d, %t; want 32, true", got, ok)
	}
}

// P1.1: the ends of the classes, written out.
func TestRoundAtTheEnds(t *testing.T) {
	for _, c := range []struct {
		n, round, class int
		ok              bool
	}{
		{-1, 0, -1, false},
		{0, 16, 0, true}, {1, 16, 0, true}, {15, 16, 0, true}, {16, 16, 0, true},
		{17, 32, 1, true}, {31, 32, 1, true}, {32, 32, 1, true},
		{33, 64, 2, true}, {63, 64, 2, true}, {64, 64, 2, true},
		{65, 128, 3, true}, {127, 128, 3, true}, {128, 128, 3, true},
		{129, 256, 4, true}, {255, 256, 4, true}, {256, 256, 4, true},
		{257, 512, 5, true}, {511, 512, 5, true}, {512, 512, 5, true},
		{513, 1024, 6, true}, {1023, 1024, 6, true}, {1024, 1024, 6, true},
		{1025, 0, -1, false},
	} {
		got, ok := size.Round(c.n)
		if got != c.round || ok != c.ok {
			t.Errorf("Round(%d) = %d, %t; want %d, %t", c.n, got, ok, c.round, c.ok)
		}
		if class := size.Class(c.n); class != c.class {
			t.Errorf("Class(%d) = %d; want %d", c.n, class, c.class)
		}
	}
}

// P1.1: all that a class holds, and some of what lies around.
func TestRoundOfAll(t *testing.T) {
	for n := -4096; n <= 4096; n++ {
		checkOne(t, n)
	}
}

// P1.1, P6: what is below 0 or above the last class, to the ends of an int.
func TestRoundRefuses(t *testing.T) {
	for _, n := range refused() {
		if got, ok := size.Round(n); got != 0 || ok {
			t.Errorf("Round(%d) = %d, %t; want 0, false", n, got, ok)
		}
		if got := size.Class(n); got != -1 {
			t.Errorf("Class(%d) = %d; want -1", n, got)
		}
	}
	for bit := range 63 {
		checkOne(t, 1<<bit)
		checkOne(t, -1<<bit)
	}
}

// P1.1: Class is the place among Classes of what Round tells.
func TestClassIsThePlaceOfRound(t *testing.T) {
	for n := range api.MaxBlock + 1 {
		got, ok := size.Round(n)
		if !ok || size.Classes()[size.Class(n)] != got {
			t.Errorf("Round(%d) = %d, %t, but Class(%d) = %d", n, got, ok, n, size.Class(n))
		}
	}
}

// P1.2: ordinary sums, and no number at all.
func TestSum(t *testing.T) {
	if got, ok := size.Sum(); got != 0 || !ok {
		t.Errorf("Sum() = %d, %t; want 0, true", got, ok)
	}
	checkSum(t, "nil", nil, 0, true)
	checkSum(t, "empty", []int{}, 0, true)
	checkSum(t, "one 0", []int{0}, 16, true)
	checkSum(t, "one 17", []int{17}, 32, true)
	checkSum(t, "the last class", []int{1024}, 1024, true)
	checkSum(t, "each rounded by itself", []int{1, 1, 1}, 48, true)
	checkSum(t, "of several classes", []int{0, 17, 1024}, 1072, true)
	checkSum(t, "all classes", wantClasses(), 2032, true)
	checkSum(t, "above the last class in all", []int{1000, 1000, 1000}, 3072, true)
}

// P1.2: the sum is that of Round of each, wherever it stands.
func TestSumIsOfRounds(t *testing.T) {
	var l []int
	want := 0
	for n := range api.MaxBlock + 1 {
		l = append(l, n)
		round, _, _ := expected(n)
		want += round
		checkSum(t, "from 0 on", l, want, true)
	}
	slices.Reverse(l)
	checkSum(t, "backwards", l, want, true)
}

// P1.2, P2: one that is refused refuses all, wherever it stands.
func TestSumRefuses(t *testing.T) {
	for _, n := range refused() {
		for _, l := range [][]int{{n}, {n, 1}, {1, n}, {1, n, 1}, {16, 1024, 17, n}, {n, n}, {n, -n}} {
			checkSum(t, "one is refused", l, 0, false)
		}
	}
	checkSum(t, "together 0", []int{-16, 16}, 0, false)
	checkSum(t, "together a class", []int{1040, -16}, 0, false)
}

// greatest: sizes whose sum is the greatest that may be, 2^31 - 16 (each class is a multiple of 16).
func greatest() []int {
	l := slices.Repeat([]int{1024}, 1<<21-1)
	return append(l, 512, 256, 128, 64, 32, 16)
}

// P1.2: the bound 2^31 - 1 is on the sum of what was rounded.
func TestSumAtTheBound(t *testing.T) {
	l := greatest()
	checkSum(t, "2^31 - 16", l, 1<<31-16, true)
	checkSum(t, "2^31", append(l, 16), 0, false)
	checkSum(t, "2^31, of a size of 0", append(l, 0), 0, false)
	checkSum(t, "2^31 + 1008", append(l, 1024), 0, false)
	checkSum(t, "above, and one is refused", append(l, 16, -1), 0, false)
	checkSum(t, "2^31, of the last class alone", slices.Repeat([]int{1024}, 1<<21), 0, false)
	checkSum(t, "2^32: no wrap at 32 bits", slices.Repeat([]int{1024}, 1<<22), 0, false)
	checkSum(t, "2^32 + 16: no wrap at 32 bits", append(slices.Repeat([]int{1024}, 1<<22), 1), 0, false)
}

// P1.3: what is rounded is a class, is never less, and is the same when rounded again.
func TestRoundedIsAClass(t *testing.T) {
	for n := range api.MaxBlock + 1 {
		got, ok := size.Round(n)
		if !ok || got < n || !slices.Contains(size.Classes(), got) {
			t.Errorf("Round(%d) = %d, %t: no class that holds it", n, got, ok)
		}
		if n >= 17 && got >= 2*n {
			t.Errorf("Round(%d) = %d: not less than twice", n, got)
		}
		if again, ok := size.Round(got); again != got || !ok {
			t.Errorf("Round(%d) = %d, rounded again %d, %t", n, got, again, ok)
		}
		if size.Class(got) != size.Class(n) {
			t.Errorf("Class(%d) = %d, of what is rounded %d", n, size.Class(n), size.Class(got))
		}
	}
}

// P3: Sum writes neither into its numbers nor behind them.
func TestSumWritesNothing(t *testing.T) {
	whole := []int{5, 17, 300, 1024, -9, 77}
	kept := slices.Clone(whole)
	size.Sum(whole[:4]...)
	size.Sum(whole...)
	size.Sum(whole[:0]...)
	if !slices.Equal(whole, kept) {
		t.Errorf("Sum wrote: %v, was %v", whole, kept)
	}
}

// P4: what is answered hangs on the arguments alone, whatever was asked ahead.
func TestSameAgain(t *testing.T) {
	for range 3 {
		checkSum(t, "ordinary", []int{3, 33, 333}, 592, true)
		checkSum(t, "refused", []int{3, -3}, 0, false)
		checkOne(t, 333)
		checkOne(t, 3333)
	}
}
