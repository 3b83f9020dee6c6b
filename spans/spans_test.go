package spans_test

import (
	"math"
	"slices"
	"testing"

	"jettison/spans"
)

const (
	first = math.MinInt64
	last  = math.MaxInt64
	most  = 4
)

// of: the ends, two by two, as they are handed in.
func of(ends ...int64) spans.Spans {
	var told spans.Spans
	for i := 0; i+1 < len(ends); i += 2 {
		told.L = append(told.L, [2]int64{ends[i], ends[i+1]})
	}
	return told
}

// equal: held against one another without the package's own Same; nil is as good as empty.
func equal(a, b spans.Spans) bool {
	if len(a.L) != len(b.L) {
		return false
	}
	for i := range a.L {
		if a.L[i][0] != b.L[i][0] || a.L[i][1] != b.L[i][1] {
			return false
		}
	}
	return true
}

// right: Spans that are right, of each length, that touch and that do not, and at both ends of 64 bits.
func right() []spans.Spans {
	return []spans.Spans{
		{}, {L: [][2]int64{}},
		of(0, 0), of(3, 3), of(-7, 12), of(first, first), of(last, last), of(first, last), of(first, -1), of(0, last),
		of(3, 3, 4, 4), of(1, 2, 3, 3), of(first, first, last, last), of(first, 0, 1, last), of(first, first, first+1, first+1), of(last-1, last-1, last, last), of(-1, -1, 0, 0),
		of(1, 1, 2, 2, 3, 3), of(-5, -3, 0, 4, 100, 1000), of(first, -2, -1, 1, 2, last),
		of(1, 1, 2, 2, 3, 3, 4, 4), of(1, 2, 4, 5, 7, 8, 10, 11), of(first, first, -1, -1, 0, 0, last, last), of(first, first+1, first+2, first+3, last-3, last-2, last-1, last), of(first, -3, -2, -1, 0, 1, 2, last),
	}
}

// wrong: Spans that are not right: too many, with a low end above the high one, or one that begins where the one ahead ends, or below that.
func wrong() []spans.Spans {
	return []spans.Spans{
		of(1, 1, 3, 3, 5, 5, 7, 7, 9, 9), of(1, 1, 2, 2, 3, 3, 4, 4, 5, 5), of(1, 1, 3, 3, 5, 5, 7, 7, 9, 9, 11, 11), of(first, first, -9, -9, 0, 0, 9, 9, last, last), of(1, 1, 1, 1, 1, 1, 1, 1, 1, 1),
		of(2, 1), of(0, -1), of(last, first), of(first+1, first), of(last, last-1), of(1, 0),
		of(1, 2, 4, 3), of(4, 3, 5, 6), of(1, 1, 3, 2, 5, 5), of(1, 1, 2, 2, 3, 3, 5, 4), of(1, 1, 5, 2, 6, 6), of(1, 2, 4, -9, 5, 6),
		of(1, 2, 2, 3), of(1, 1, 1, 1), of(1, 1, 1, 2), of(1, 2, 2, 2), of(0, 5, 1, 2), of(0, 5, 3, 9), of(0, 5, 5, 5), of(first, last, last, last), of(first, first, first, first), of(last, last, last, last), of(first, 0, 0, last),
		of(5, 6, 1, 2), of(9, 9, 7, 7), of(1, 1, 5, 5, 3, 3), of(1, 1, 3, 3, 7, 7, 5, 5), of(3, 3, 1, 1, 5, 5, 7, 7), of(last, last, first, first), of(0, 0, -1, -1), of(1, 1, 2, 2, 3, 3, 3, 3), of(1, 1, 2, 2, 3, 3, -3, -3),
	}
}

// numbers: some within all of the above, some between, and the ends of 64 bits.
func numbers() []int64 {
	told := []int64{first, first + 1, first + 2, first + 3, last - 3, last - 2, last - 1, last, 99, 100, 101, 999, 1000, 1001}
	for n := int64(-13); n <= 13; n++ {
		told = append(told, n)
	}
	return told
}

// P19.1: which are right: none at all, up to MaxSpans of them, from a low end to one that is not below it, each above where the one ahead ends, though it may touch.
func TestRight(t *testing.T) {
	for _, s := range right() {
		if !spans.Right(s) {
			t.Errorf("Right(%v) = false", s)
		}
	}
}

// P19.1: which are not right, for each reason there is, at each place.
func TestNotRight(t *testing.T) {
	for _, s := range wrong() {
		if spans.Right(s) {
			t.Errorf("Right(%v) = true", s)
		}
	}
}

// P19.1: just MaxSpans of them may be, and not one above, whatever they are.
func TestMaxSpans(t *testing.T) {
	var s spans.Spans
	for i := range int64(20) {
		if got := spans.Right(s); got != (i <= most) {
			t.Errorf("Right(%v) = %t, of %d", s, got, i)
		}
		s.L = append(s.L, [2]int64{3 * i, 3*i + i%3})
	}
}

// P19.1: one that touches the one ahead is right, one that meets it is not, at each place.
func TestTouch(t *testing.T) {
	for i := 1; i < most; i++ {
		for by := int64(-2); by <= 2; by++ {
			var s spans.Spans
			low := int64(0)
			for j := range most {
				if j == i {
					low += by - 1
				}
				s.L = append(s.L, [2]int64{low, low + 4})
				low += 5
			}
			if got := spans.Right(s); got != (by > 0) {
				t.Errorf("Right(%v) = %t", s, got)
			}
		}
	}
}

// P19.1: Same is whether all ends are: each with itself, in memory of its own, and none with another one.
func TestSame(t *testing.T) {
	l := slices.Concat(right()[1:], wrong())
	for i, a := range l {
		for j, b := range l {
			b = spans.Spans{L: slices.Clone(b.L)}
			if got := spans.Same(a, b); got != (i == j) {
				t.Errorf("Same(%v, %v) = %t", a, b, got)
			}
		}
	}
}

// P19.1, P5: Same of none, be they nil or empty, and of ones that are longer, from the beginning on or from the end on.
func TestSameLengths(t *testing.T) {
	for _, a := range []spans.Spans{{}, {L: [][2]int64{}}, {L: make([][2]int64, 0, 9)}} {
		for _, b := range []spans.Spans{{}, {L: [][2]int64{}}, {L: make([][2]int64, 0, 9)}} {
			if !spans.Same(a, b) {
				t.Errorf("Same(%v, %v) = false", a, b)
			}
		}
		if spans.Same(a, of(0, 0)) || spans.Same(of(0, 0), a) || spans.Same(a, of(0, 0, 1, 1)) {
			t.Errorf("%v is the same as one that is", a)
		}
	}
	whole := of(1, 2, 4, 5, 7, 8, 10, 11)
	for i := range most {
		for _, part := range []spans.Spans{{L: whole.L[:i]}, {L: whole.L[i+1:]}} {
			if spans.Same(whole, part) || spans.Same(part, whole) {
				t.Errorf("%v is the same as %v", part, whole)
			}
		}
	}
}

// P19.1: one end that is another one is enough, at each place, by as little as may be.
func TestSameEnds(t *testing.T) {
	for _, s := range slices.Concat(right(), wrong()) {
		for i := range s.L {
			for j := range 2 {
				for _, by := range []int64{-1, 1, first} {
					other := spans.Spans{L: slices.Clone(s.L)}
					other.L[i][j] += by
					if spans.Same(s, other) || spans.Same(other, s) {
						t.Errorf("%v is the same as %v", s, other)
					}
				}
			}
		}
	}
	if spans.Same(of(1, 1, 3, 3), of(3, 3, 1, 1)) || spans.Same(of(1, 2), of(2, 1)) || spans.Same(of(1, 3), of(1, 1, 2, 2, 3, 3)) {
		t.Error("ends in another order are the same, or ones that only have the same numbers")
	}
}

// P19.2: what Add tells, written out.
func TestAdd(t *testing.T) {
	for _, c := range []struct {
		s    spans.Spans
		n    int64
		want spans.Spans
	}{
		// Of none.
		{spans.Spans{}, 3, of(3, 3)}, {spans.Spans{L: [][2]int64{}}, 0, of(0, 0)}, {spans.Spans{}, first, of(first, first)}, {spans.Spans{}, last, of(last, last)},
		// One has it: within, at the low end, at the high one, and of one number.
		{of(1, 5), 3, of(1, 5)}, {of(1, 5), 1, of(1, 5)}, {of(1, 5), 5, of(1, 5)}, {of(3, 3), 3, of(3, 3)},
		{of(1, 2, 4, 5, 7, 8, 10, 11), 1, of(1, 2, 4, 5, 7, 8, 10, 11)}, {of(1, 2, 4, 5, 7, 8, 10, 11), 5, of(1, 2, 4, 5, 7, 8, 10, 11)}, {of(1, 2, 4, 5, 7, 8, 10, 11), 7, of(1, 2, 4, 5, 7, 8, 10, 11)}, {of(1, 2, 4, 5, 7, 8, 10, 11), 11, of(1, 2, 4, 5, 7, 8, 10, 11)},
		{of(first, last), 0, of(first, last)}, {of(first, last), first, of(first, last)}, {of(first, last), last, of(first, last)},
		// Below all, above all, and between two, while there is a place left.
		{of(5, 6), 1, of(1, 1, 5, 6)}, {of(5, 6), 9, of(5, 6, 9, 9)}, {of(1, 2, 8, 9), 5, of(1, 2, 5, 5, 8, 9)},
		{of(1, 1, 3, 3, 5, 5), 0, of(0, 0, 1, 1, 3, 3, 5, 5)}, {of(1, 1, 3, 3, 5, 5), 2, of(1, 1, 2, 2, 3, 3, 5, 5)}, {of(1, 1, 3, 3, 5, 5), 4, of(1, 1, 3, 3, 4, 4, 5, 5)}, {of(1, 1, 3, 3, 5, 5), 6, of(1, 1, 3, 3, 5, 5, 6, 6)},
		// Next to one it only touches: it is no part of it, while there is a place left.
		{of(3, 3), 4, of(3, 3, 4, 4)}, {of(3, 3), 2, of(2, 2, 3, 3)}, {of(1, 2, 4, 5), 3, of(1, 2, 3, 3, 4, 5)}, {of(last-1, last-1), last, of(last-1, last-1, last, last)}, {of(first+1, last), first, of(first, first, first+1, last)}, {of(0, 0), -1, of(-1, -1, 0, 0)},
		// One too many, below all, above all, and between two: it may be one with a neighbour, or others are.
		{of(10, 11, 20, 21, 40, 41, 60, 61), 5, of(5, 11, 20, 21, 40, 41, 60, 61)}, {of(10, 11, 14, 15, 40, 41, 60, 61), 5, of(5, 5, 10, 15, 40, 41, 60, 61)},
		{of(10, 11, 20, 21, 40, 41, 60, 61), 65, of(10, 11, 20, 21, 40, 41, 60, 65)}, {of(10, 11, 20, 21, 40, 41, 60, 61), 95, of(10, 21, 40, 41, 60, 61, 95, 95)}, {of(0, 1, 20, 21, 40, 41, 60, 61), 90, of(0, 21, 40, 41, 60, 61, 90, 90)}, {of(0, 1, 20, 21, 40, 41, 55, 61), 90, of(0, 1, 20, 21, 40, 61, 90, 90)},
		{of(10, 11, 20, 21, 40, 41, 60, 61), 25, of(10, 11, 20, 25, 40, 41, 60, 61)}, {of(10, 11, 20, 21, 40, 41, 60, 61), 35, of(10, 11, 20, 21, 35, 41, 60, 61)}, {of(10, 11, 20, 21, 40, 41, 60, 61), 31, of(10, 21, 31, 31, 40, 41, 60, 61)}, {of(10, 11, 22, 23, 40, 41, 60, 61), 31, of(10, 11, 22, 31, 40, 41, 60, 61)}, {of(10, 11, 22, 23, 40, 41, 60, 61), 33, of(10, 11, 22, 23, 33, 41, 60, 61)},
		// A gap is from a high end to a low one, not from low end to low end, or from high end to high end.
		{of(0, 90, 92, 93, 100, 101, 110, 111), 130, of(0, 93, 100, 101, 110, 111, 130, 130)}, {of(0, 1, 10, 11, 20, 21, 24, 99), 130, of(0, 1, 10, 11, 20, 99, 130, 130)},
		// Ones that touch have a gap of one, which is the least there is.
		{of(1, 1, 3, 3, 5, 5, 6, 6), 9, of(1, 1, 3, 3, 5, 6, 9, 9)}, {of(1, 1, 2, 2, 3, 3, 4, 4), 5, of(1, 2, 3, 3, 4, 4, 5, 5)}, {of(1, 1, 3, 3, 5, 5, 7, 7), 8, of(1, 1, 3, 3, 5, 5, 7, 8)}, {of(1, 1, 3, 3, 5, 5, 7, 7), 4, of(1, 1, 3, 4, 5, 5, 7, 7)},
	} {
		for range 2 {
			got := c.s.Add(c.n)
			if !equal(got, c.want) || !spans.Same(got, c.want) {
				t.Errorf("%v.Add(%d) = %v; want %v", c.s, c.n, got, c.want)
			}
		}
	}
}

// P19.2: where more than one gap is the least the first two neighbours are one, wherever these stand.
func TestFirstGap(t *testing.T) {
	for _, c := range []struct {
		s    spans.Spans
		n    int64
		want spans.Spans
	}{
		{of(0, 0, 2, 2, 4, 4, 6, 6), 8, of(0, 2, 4, 4, 6, 6, 8, 8)}, {of(2, 2, 4, 4, 6, 6, 8, 8), 0, of(0, 2, 4, 4, 6, 6, 8, 8)}, {of(0, 0, 2, 2, 6, 6, 8, 8), 4, of(0, 2, 4, 4, 6, 6, 8, 8)},
		{of(0, 0, 3, 3, 5, 5, 7, 7), 9, of(0, 0, 3, 5, 7, 7, 9, 9)}, {of(0, 0, 3, 3, 6, 6, 8, 8), 10, of(0, 0, 3, 3, 6, 8, 10, 10)}, {of(0, 0, 3, 3, 6, 6, 9, 9), 11, of(0, 0, 3, 3, 6, 6, 9, 11)},
		{of(0, 0, 2, 2, 5, 5, 7, 7), 10, of(0, 2, 5, 5, 7, 7, 10, 10)}, {of(0, 0, 9, 9, 11, 11, 20, 20), 22, of(0, 0, 9, 11, 20, 20, 22, 22)}, {of(0, 5, 10, 20, 25, 26, 31, 40), 45, of(0, 20, 25, 26, 31, 40, 45, 45)},
		// The same on both sides of what is put.
		{of(0, 0, 10, 10, 14, 14, 30, 30), 12, of(0, 0, 10, 12, 14, 14, 30, 30)},
	} {
		if got := c.s.Add(c.n); !equal(got, c.want) {
			t.Errorf("%v.Add(%d) = %v; want %v", c.s, c.n, got, c.want)
		}
	}
}

// P19.2, P6: gaps that have no room in 64 bits with a sign are the great ones all the same.
func TestGreatGaps(t *testing.T) {
	for _, c := range []struct {
		s    spans.Spans
		n    int64
		want spans.Spans
	}{
		{of(first, first, last-9, last-9, last-6, last-6, last-3, last-3), last, of(first, first, last-9, last-6, last-3, last-3, last, last)},
		{of(first+3, first+3, first+6, first+6, first+9, first+9, last, last), first, of(first, first+3, first+6, first+6, first+9, first+9, last, last)},
		{of(first, first, first+5, first+5, first+9, first+9, last, last), first + 12, of(first, first, first+5, first+5, first+9, first+12, last, last)},
		{of(first, first, last-8, last-8, last-3, last-3, last-1, last-1), last - 5, of(first, first, last-8, last-8, last-5, last-3, last-1, last-1)},
		{of(first, first, first+8, first+8, last-8, last-8, last, last), first + 5, of(first, first, first+5, first+8, last-8, last-8, last, last)},
		{of(first, first, first+8, first+8, last-8, last-8, last, last), last - 3, of(first, first, first+8, first+8, last-8, last-8, last-3, last)},
		// Of gaps from below 0 to above it all but one have no room, or just have none.
		{of(-5, -5, 0, 0, 5, 5, last, last), first, of(first, first, -5, 0, 5, 5, last, last)},
		{of(first, -2, -1, -1, 1, 1, 4, 4), last, of(first, -1, 1, 1, 4, 4, last, last)},
		{of(first, first, first+1, first+1, 0, 0, last, last), 1, of(first, first+1, 0, 0, 1, 1, last, last)},
		{of(first, first, 0, 0, last-2, last-2, last, last), first + 2, of(first, first+2, 0, 0, last-2, last-2, last, last)},
		{of(first, first, 0, 0, last-1, last-1, last, last), first + 2, of(first, first, first+2, first+2, 0, 0, last-1, last)},
		{of(first, first, first+1<<62, first+1<<62, 0, 0, 1<<62, 1<<62), last, of(first, first, first+1<<62, first+1<<62, 0, 0, 1<<62, last)},
		{of(first, first, first+1<<62-1, first+1<<62-1, 0, 0, 1<<62, 1<<62), last, of(first, first+1<<62-1, 0, 0, 1<<62, 1<<62, last, last)},
	} {
		if got := c.s.Add(c.n); !equal(got, c.want) {
			t.Errorf("%v.Add(%d) = %v; want %v", c.s, c.n, got, c.want)
		}
	}
}

// P19.2: what is not right is told as it is, whatever is added.
func TestAddToWrong(t *testing.T) {
	for _, s := range wrong() {
		want := spans.Spans{L: slices.Clone(s.L)}
		for _, n := range numbers() {
			for range 2 {
				if got := s.Add(n); !equal(got, want) || !spans.Same(got, want) {
					t.Errorf("%v.Add(%d) = %v", want, n, got)
				}
			}
		}
	}
}

// within: what Has asks, by the chapter's words.
func within(s spans.Spans, n int64) bool {
	for _, span := range s.L {
		if n >= span[0] && n <= span[1] {
			return true
		}
	}
	return false
}

// P19.3: Has, written out: within, at either end, next to either end, between, and outside of all.
func TestHas(t *testing.T) {
	for _, c := range []struct {
		s       spans.Spans
		yes, no []int64
	}{
		{spans.Spans{}, nil, []int64{first, -1, 0, 1, last}},
		{of(3, 3), []int64{3}, []int64{first, -3, 0, 2, 4, last}},
		{of(-2, 5), []int64{-2, -1, 0, 4, 5}, []int64{first, -3, 6, last}},
		{of(3, 3, 4, 4), []int64{3, 4}, []int64{2, 5}},
		{of(1, 2, 4, 5, 7, 8, 10, 11), []int64{1, 2, 4, 5, 7, 8, 10, 11}, []int64{first, 0, 3, 6, 9, 12, last}},
		{of(first, first, last, last), []int64{first, last}, []int64{first + 1, -1, 0, 1, last - 1}},
		{of(first, last), []int64{first, first + 1, 0, last - 1, last}, nil},
		// Of what is not right each one counts that has its low end not above its high one, wherever it stands.
		{of(5, 1, 3, 4), []int64{3, 4}, []int64{1, 2, 5}},
		{of(5, 1), nil, []int64{first, 0, 1, 2, 3, 4, 5, 6, last}},
		{of(last, first), nil, []int64{first, 0, last}},
		{of(5, 6, 1, 2), []int64{1, 2, 5, 6}, []int64{0, 3, 4, 7}},
		{of(1, 2, 2, 3), []int64{1, 2, 3}, []int64{0, 4}},
		{of(0, 9, 2, 3), []int64{0, 1, 2, 3, 4, 9}, []int64{-1, 10}},
		{of(1, 1, 3, 3, 5, 5, 7, 7, 9, 9, 11, 11), []int64{1, 3, 5, 7, 9, 11}, []int64{0, 2, 4, 6, 8, 10, 12}},
	} {
		for range 2 {
			for _, n := range c.yes {
				if !c.s.Has(n) {
					t.Errorf("%v.Has(%d) = false", c.s, n)
				}
			}
			for _, n := range c.no {
				if c.s.Has(n) {
					t.Errorf("%v.Has(%d) = true", c.s, n)
				}
			}
		}
	}
	for _, s := range slices.Concat(right(), wrong()) {
		for _, n := range numbers() {
			if got := s.Has(n); got != within(s, n) {
				t.Errorf("%v.Has(%d) = %t", s, n, got)
			}
		}
	}
}

// P19.3: Meets, written out.
func TestMeets(t *testing.T) {
	for _, c := range []struct {
		s         spans.Spans
		low, high int64
		want      bool
	}{
		// None at all.
		{spans.Spans{}, first, last, false}, {spans.Spans{}, 0, 0, false},
		// Just one number in common: at the low end, at the high one, and of one number on either side.
		{of(3, 7), 1, 3, true}, {of(3, 7), 7, 9, true}, {of(3, 3), 3, 3, true}, {of(3, 3), 0, 9, true}, {of(3, 7), 5, 5, true}, {of(3, 7), 3, 3, true}, {of(3, 7), 7, 7, true},
		// Next to it there is none.
		{of(3, 7), 1, 2, false}, {of(3, 7), 8, 9, false}, {of(3, 3), 4, 4, false}, {of(3, 3), 2, 2, false}, {of(3, 7), first, 2, false}, {of(3, 7), 8, last, false},
		// One within the other, and the other way round, and across either end.
		{of(3, 7), 4, 6, true}, {of(3, 7), 1, 9, true}, {of(3, 7), 3, 7, true}, {of(3, 7), 1, 5, true}, {of(3, 7), 5, 9, true}, {of(3, 7), first, last, true},
		// Between two, over the whole of what is between, and one more on either side.
		{of(1, 2, 8, 9), 4, 6, false}, {of(1, 2, 8, 9), 3, 7, false}, {of(1, 2, 8, 9), 2, 7, true}, {of(1, 2, 8, 9), 3, 8, true}, {of(1, 2, 8, 9), 2, 8, true}, {of(1, 2, 8, 9), 5, 5, false}, {of(3, 3, 4, 4), 4, 4, true}, {of(3, 3, 4, 4), 3, 3, true},
		// Each of four, and what is between.
		{of(1, 1, 3, 3, 5, 5, 7, 7), 1, 1, true}, {of(1, 1, 3, 3, 5, 5, 7, 7), 3, 3, true}, {of(1, 1, 3, 3, 5, 5, 7, 7), 5, 5, true}, {of(1, 1, 3, 3, 5, 5, 7, 7), 7, 7, true}, {of(1, 1, 3, 3, 5, 5, 7, 7), 6, 6, false}, {of(1, 1, 3, 3, 5, 5, 7, 7), 8, 8, false}, {of(1, 1, 3, 3, 5, 5, 7, 7), 0, 0, false},
		// Low above high: from the one to the other there is no number, though each of the two be had.
		{of(3, 7), 7, 3, false}, {of(3, 7), 6, 5, false}, {of(3, 7), 9, 1, false}, {of(1, 2, 8, 9), 8, 2, false}, {of(first, last), 0, -1, false}, {of(first, last), last, first, false}, {of(0, 0), 1, 0, false}, {of(0, 0), 0, -1, false},
		// The ends of 64 bits.
		{of(first, first), first, first, true}, {of(last, last), last, last, true}, {of(first, first), first + 1, last, false}, {of(last, last), first, last - 1, false}, {of(first, first, last, last), first + 1, last - 1, false}, {of(first, last), first, last, true}, {of(0, 0), first, last, true},
		// Of what is not right each one counts that has a number.
		{of(5, 1), 1, 5, false}, {of(5, 1), first, last, false}, {of(5, 1), 3, 3, false}, {of(5, 1), 5, 1, false}, {of(last, first), first, last, false}, {of(5, 1, 3, 4), 0, 9, true}, {of(5, 1, 3, 4), 1, 2, false}, {of(5, 6, 1, 2), 2, 2, true}, {of(5, 6, 1, 2), 3, 4, false},
		{of(1, 1, 3, 3, 5, 5, 7, 7, 9, 9), 9, 20, true}, {of(1, 1, 3, 3, 5, 5, 7, 7, 9, 9), 8, 8, false},
	} {
		for range 2 {
			if got := c.s.Meets(c.low, c.high); got != c.want {
				t.Errorf("%v.Meets(%d, %d) = %t", c.s, c.low, c.high, got)
			}
		}
	}
}

// P19.3: Cover, written out: of no number it holds, of some if each is had, wherever the one stands that is not.
func TestCover(t *testing.T) {
	s := of(1, 2, 4, 5, 7, 8, 10, 11)
	for _, c := range []struct {
		s    spans.Spans
		l    []int64
		want bool
	}{
		{spans.Spans{}, nil, true}, {spans.Spans{}, []int64{}, true}, {s, nil, true}, {s, []int64{}, true}, {of(5, 1), nil, true},
		{spans.Spans{}, []int64{0}, false}, {spans.Spans{}, []int64{first, last}, false},
		{s, []int64{1}, true}, {s, []int64{3}, false}, {s, []int64{1, 2, 4, 5, 7, 8, 10, 11}, true}, {s, []int64{11, 1, 7, 7, 7, 2}, true},
		{s, []int64{3, 1, 2}, false}, {s, []int64{1, 3, 2}, false}, {s, []int64{1, 2, 3}, false}, {s, []int64{12, 1}, false}, {s, []int64{1, 0}, false}, {s, []int64{3, 6, 9}, false},
		{of(first, first, last, last), []int64{first, last}, true}, {of(first, first, last, last), []int64{first, 0, last}, false}, {of(first, last), []int64{last, 0, first}, true},
		{of(5, 1, 3, 4), []int64{3, 4}, true}, {of(5, 1, 3, 4), []int64{3, 2}, false}, {of(5, 1), []int64{3}, false}, {of(5, 6, 1, 2), []int64{1, 5, 2, 6}, true}, {of(1, 1, 3, 3, 5, 5, 7, 7, 9, 9), []int64{9, 1, 5}, true},
	} {
		for range 2 {
			if got := c.s.Cover(c.l...); got != c.want {
				t.Errorf("%v.Cover(%v) = %t", c.s, c.l, got)
			}
		}
	}
	if !s.Cover() || !s.Cover(1, 11) || s.Cover(1, 12) {
		t.Errorf("%v.Cover, of numbers one by one", s)
	}
}

// roomy: what it is handed, with room behind that holds marks.
func roomy(l [][2]int64) [][2]int64 {
	told := make([][2]int64, len(l), len(l)+8)
	copy(told, l)
	behind := told[len(l):cap(told)]
	for i := range behind {
		behind[i] = [2]int64{-77, 77}
	}
	return told
}

// untouched: that l is still as it was, and so is what stands behind it.
func untouched(t *testing.T, l, was [][2]int64) {
	t.Helper()
	if !slices.Equal(l, was) {
		t.Errorf("%v was handed in, and is %v", was, l)
	}
	for _, mark := range l[len(l):cap(l)] {
		if mark != [2]int64{-77, 77} {
			t.Errorf("behind %v there is %v", was, mark)
		}
	}
}

// P3: nothing that is handed in is written into, nor what stands behind it; what is told of what was put is new memory, spare room too.
func TestNothingWritten(t *testing.T) {
	for _, was := range slices.Concat(right(), wrong()) {
		for _, n := range numbers() {
			s := spans.Spans{L: roomy(was.L)}
			l := []int64{n, n, 0}
			got := s.Add(n)
			s.Has(n)
			s.Meets(n, n+1)
			s.Cover(l...)
			spans.Right(s)
			spans.Same(s, got)
			untouched(t, s.L, was.L)
			if !slices.Equal(l, []int64{n, n, 0}) {
				t.Errorf("Cover wrote into %v", l)
			}
			if !spans.Right(was) || within(was, n) {
				continue
			}
			want := slices.Clone(got.L)
			scrawl(got.L)
			untouched(t, s.L, was.L)
			if again := s.Add(n); !slices.Equal(again.L, want) {
				t.Errorf("%v.Add(%d) = %v, and then %v", was, n, want, again)
			}
			got = s.Add(n)
			scrawl(s.L)
			if !slices.Equal(got.L, want) {
				t.Errorf("%v.Add(%d) shares what was handed in", was, n)
			}
		}
	}
}

// scrawl: writes over a list, and over its spare room.
func scrawl(l [][2]int64) {
	l = l[:cap(l)]
	for i := range l {
		l[i] = [2]int64{555, -555}
	}
}

// P1, P3: two that go on from the same Spans do not see one another.
func TestTwoWays(t *testing.T) {
	s := of(1, 1).Add(5)
	a, b := s.Add(9), s.Add(3)
	if !equal(s, of(1, 1, 5, 5)) || !equal(a, of(1, 1, 5, 5, 9, 9)) || !equal(b, of(1, 1, 3, 3, 5, 5)) {
		t.Errorf("%v, %v, %v", s, a, b)
	}
	c, d := b.Add(7).Add(11), b.Add(7).Add(0)
	if !equal(c, of(1, 3, 5, 5, 7, 7, 11, 11)) || !equal(d, of(0, 1, 3, 3, 5, 5, 7, 7)) || !equal(b, of(1, 1, 3, 3, 5, 5)) {
		t.Errorf("%v, %v, %v", b, c, d)
	}
}

// P1, P19.3: of very many, which are not right, all calls end, and the last one counts as the first one does.
func TestMany(t *testing.T) {
	var s spans.Spans
	for i := range int64(100000) {
		s.L = append(s.L, [2]int64{2 * i, 2 * i})
	}
	other := spans.Spans{L: slices.Clone(s.L)}
	if spans.Right(s) || !s.Has(199998) || s.Has(199997) || s.Has(199999) || !s.Meets(199997, last) || s.Meets(199999, last) || !s.Cover(0, 100000, 199998) || !spans.Same(s, other) || !equal(s.Add(1), other) {
		t.Error("of very many")
	}
	other.L[99999][1]++
	if spans.Same(s, other) {
		t.Error("very many are the same as ones of which the last end is another one")
	}
	l := make([]int64, 100000)
	if !of(0, 0).Cover(l...) {
		t.Error("0 to 0 does not cover very many 0s")
	}
	l[99999] = 1
	if of(0, 0).Cover(l...) {
		t.Error("0 to 0 covers a 1, the last of very many")
	}
}
