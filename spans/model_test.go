package spans_test

import (
	"math/big"
	"slices"
	"testing"

	"jettison/spans"
)

// seq: numbers that look like chance, and are the same each time.
type seq uint64

func (s *seq) below(n int) int {
	*s = *s*6364136223846793005 + 1442695040888963407
	return int(uint64(*s>>33) % uint64(n))
}

func pick[T any](s *seq, l ...T) T {
	return l[s.below(len(l))]
}

// bits: any number of 64 bits.
func (s *seq) bits() int64 {
	return int64(s.below(1<<22)) | int64(s.below(1<<22))<<22 | int64(s.below(1<<20))<<44
}

// model: a list of the ends by the chapter's words alone, in numbers that never wrap.
type model [][2]*big.Int

func modelOf(s spans.Spans) model {
	var m model
	for _, span := range s.L {
		m = append(m, [2]*big.Int{big.NewInt(span[0]), big.NewInt(span[1])})
	}
	return m
}

func (m model) spans() spans.Spans {
	var s spans.Spans
	for _, span := range m {
		s.L = append(s.L, [2]int64{span[0].Int64(), span[1].Int64()})
	}
	return s
}

func (m model) has(n *big.Int) bool {
	for _, span := range m {
		if n.Cmp(span[0]) >= 0 && n.Cmp(span[1]) <= 0 {
			return true
		}
	}
	return false
}

// gap: how far the one behind i is from i.
func (m model) gap(i int) *big.Int {
	return new(big.Int).Sub(m[i+1][0], m[i][1])
}

func (m model) add(number int64) model {
	n := big.NewInt(number)
	if m.has(n) {
		return m
	}
	told := append(slices.Clone(m), [2]*big.Int{n, n})
	slices.SortFunc(told, func(a, b [2]*big.Int) int { return a[0].Cmp(b[0]) })
	if len(told) <= most {
		return told
	}
	least := told.gap(0)
	for i := 1; i+1 < len(told); i++ {
		if told.gap(i).Cmp(least) < 0 {
			least = told.gap(i)
		}
	}
	for i := range told {
		if told.gap(i).Cmp(least) == 0 {
			one := [2]*big.Int{told[i][0], told[i+1][1]}
			return slices.Concat(told[:i], model{one}, told[i+2:])
		}
	}
	panic("no gap is the least")
}

// all: hands out all Spans that are right whose ends are of the numbers, which stand in order.
func all(numbers []int64, with func(spans.Spans)) {
	var grow func(l [][2]int64, from int)
	grow = func(l [][2]int64, from int) {
		with(spans.Spans{L: l})
		if len(l) == most {
			return
		}
		for i := from; i < len(numbers); i++ {
			for j := i; j < len(numbers); j++ {
				grow(append(slices.Clone(l), [2]int64{numbers[i], numbers[j]}), j+1)
			}
		}
	}
	grow(nil, 0)
}

// sets: some numbers in order each, next to one another, and far from one another, up to both ends of 64 bits.
func sets() [][]int64 {
	return [][]int64{
		{0, 1, 2, 3, 4, 5, 6, 7, 8, 9},
		{-20, -12, -11, -5, 0, 1, 7, 16, 18, 25},
		{first, first + 1, first + 3, -2, -1, 0, 2, last - 2, last - 1, last},
		{first, first + 1<<62, first + 1<<62 + 1, -1, 0, 1<<62 - 1, 1 << 62, last},
	}
}

// P19.2, P19.4: of all Spans whose ends are of some numbers, Add of each of these, and of their neighbours.
func TestAddOfAll(t *testing.T) {
	had, put, joined := 0, 0, 0
	for _, numbers := range sets() {
		more := slices.Clone(numbers)
		for _, n := range numbers {
			more = append(more, n-1, n+1)
		}
		all(numbers, func(s spans.Spans) {
			m := modelOf(s)
			for _, n := range more {
				want := m.add(n).spans()
				got := s.Add(n)
				if !equal(got, want) {
					t.Fatalf("%v.Add(%d) = %v; want %v", s, n, got, want)
				}
				switch {
				case equal(want, s):
					had++
				case len(want.L) > len(s.L):
					put++
				default:
					joined++
				}
				if !spans.Right(got) || !got.Has(n) {
					t.Fatalf("%v.Add(%d) = %v, which is not right, or does not have it", s, n, got)
				}
			}
		})
	}
	if had < 10000 || put < 10000 || joined < 10000 {
		t.Errorf("%d had, %d put, %d joined", had, put, joined)
	}
}

// P19.1: of all lists of up to four intervals over a few numbers just those are right that the words say.
func TestRightOfAll(t *testing.T) {
	numbers := []int64{first, -1, 0, last}
	yes, no := 0, 0
	var l [][2]int64
	var grow func(left int)
	grow = func(left int) {
		want := len(l) <= most
		for i := range l {
			want = want && l[i][0] <= l[i][1] && (i == 0 || l[i-1][1] < l[i][0])
		}
		if got := spans.Right(spans.Spans{L: l}); got != want {
			t.Fatalf("Right(%v) = %t", l, got)
		}
		if want {
			yes++
		} else {
			no++
		}
		if left == 0 {
			return
		}
		for _, low := range numbers {
			for _, high := range numbers {
				l = append(l, [2]int64{low, high})
				grow(left - 1)
				l = l[:len(l)-1]
			}
		}
	}
	grow(4)
	if yes != 34 || no < 50000 {
		t.Errorf("%d are right, %d are not", yes, no)
	}
}

// P19.3: of all Spans over some numbers, Has of each, Meets of each two, and Cover of each three.
func TestHasOfAll(t *testing.T) {
	numbers := []int64{-1, 0, 1, 2, 3, 4, 5, 6, 7}
	met, covered := 0, 0
	all(numbers[1:8], func(s spans.Spans) {
		var has [9]bool
		for i, n := range numbers {
			has[i] = within(s, n)
			if got := s.Has(n); got != has[i] {
				t.Fatalf("%v.Has(%d) = %t", s, n, got)
			}
		}
		for i, a := range numbers {
			for j, b := range numbers {
				want := i <= j && slices.Contains(has[min(i, j):j+1], true)
				if got := s.Meets(a, b); got != want {
					t.Fatalf("%v.Meets(%d, %d) = %t", s, a, b, got)
				}
				if want {
					met++
				}
				for k, c := range numbers {
					want := has[i] && has[j] && has[k]
					if got := s.Cover(a, b, c); got != want {
						t.Fatalf("%v.Cover(%d, %d, %d) = %t", s, a, b, c, got)
					}
					if want {
						covered++
					}
				}
			}
		}
	})
	if met < 10000 || covered < 10000 {
		t.Errorf("%d met, %d covered", met, covered)
	}
}

// number: near what was, or far, or at an end of 64 bits; it may wrap.
func (s *seq) number(added []int64, wide int) int64 {
	near := int64(0)
	if len(added) > 0 {
		near = pick(s, added...)
	}
	return pick(s, int64(s.below(wide)), -int64(s.below(wide)), int64(s.below(wide))-int64(wide/2), near, near+1, near-1, near+int64(s.below(9)), near-int64(s.below(9)),
		pick(s, s.bits(), first+int64(s.below(4)), last-int64(s.below(4)), near+s.bits()>>s.below(60)))
}

// P19.2, P19.4: long runs of Adds that look like chance, against the model: what was added is had, each end was added, and there are never more than MaxSpans.
func TestRuns(t *testing.T) {
	s := seq(19)
	full, joined, ties, far := 0, 0, 0, 0
	for range 400 {
		var got spans.Spans
		var m model
		var added []int64
		wide := pick(&s, 10, 50, 1000, 1<<40)
		for range 1 + s.below(60) {
			n := s.number(added, wide)
			if wide == 10 && s.below(3) > 0 {
				n = int64(s.below(30))
			}
			added = append(added, n)
			before := got
			got, m = got.Add(n), m.add(n)
			if !equal(got, m.spans()) {
				t.Fatalf("%v.Add(%d) = %v; want %v", before, n, got, m.spans())
			}
			if !spans.Right(got) || len(got.L) > most || !got.Cover(added...) {
				t.Fatalf("%v, of %v", got, added)
			}
			for _, span := range got.L {
				if !slices.Contains(added, span[0]) || !slices.Contains(added, span[1]) {
					t.Fatalf("%v has an end that was not added: %v", got, added)
				}
			}
			if len(before.L) == most {
				full++
				if !within(before, n) {
					joined++
				}
			}
			for i := range len(m) - 1 {
				if i > 0 && m.gap(i).Cmp(m.gap(i-1)) == 0 {
					ties++
				}
				if !m.gap(i).IsInt64() {
					far++
				}
			}
			s.asks(t, got, m, added)
		}
	}
	if full < 5000 || joined < 3000 || ties < 200 || far < 100 {
		t.Errorf("%d full, %d joined, %d ties, %d far", full, joined, ties, far)
	}
}

// asks: Has, Meets and Cover of numbers near the ends, and of some that were added, with what m says of them.
func (s *seq) asks(t *testing.T, got spans.Spans, m model, added []int64) {
	t.Helper()
	for range 3 {
		a, b := s.number(added, 20), s.number(added, 20)
		hasA, hasB := m.has(big.NewInt(a)), m.has(big.NewInt(b))
		if got.Has(a) != hasA || got.Cover(a, b) != (hasA && hasB) || got.Cover(b, a) != (hasA && hasB) {
			t.Fatalf("%v: Has(%d) = %t, Cover(%d, %d) = %t", got, a, got.Has(a), a, b, got.Cover(a, b))
		}
		// From a to b there is one just if a is had, or b, or a low end is between.
		want := a <= b && (hasA || hasB || slices.ContainsFunc(got.L, func(span [2]int64) bool { return a <= span[0] && span[0] <= b }))
		if got.Meets(a, b) != want {
			t.Fatalf("%v.Meets(%d, %d) = %t", got, a, b, !want)
		}
	}
}

// P4: what Add tells hangs on the Spans and on the number alone: told again it is the same, and so it is of a copy.
func TestAgain(t *testing.T) {
	s := seq(4)
	for range 300 {
		var a, b spans.Spans
		for range 30 {
			n := s.number(nil, 60)
			a.Add(n + 1)
			a, b = a.Add(n), spans.Spans{L: slices.Clone(b.L)}.Add(n)
			if !equal(a, b) || !spans.Same(a, b) {
				t.Fatalf("%v, and %v", a, b)
			}
		}
	}
}
