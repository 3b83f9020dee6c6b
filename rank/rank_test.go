package rank_test

import (
	"math"
	"testing"

	"jettison/rank"
)

const (
	first = math.MinInt64
	last  = math.MaxInt64
)

// pair: an id, and its score.
type pair struct {
	id    int
	score int64
}

// full: a Rank of the pairs, put in their order.
func full(t *testing.T, l ...pair) *rank.Rank {
	t.Helper()
	r := rank.New()
	for _, p := range l {
		if !r.Put(p.id, p.score) {
			t.Fatalf("Put(%d, %d) = false, of what is not there", p.id, p.score)
		}
	}
	return r
}

// has: that r has just the pairs, asked for in each way but Drop; what it has not is asked for by other.
func has(t *testing.T, r *rank.Rank, l []pair, other ...int) {
	t.Helper()
	for range 2 {
		if got := r.Len(); got != len(l) {
			t.Errorf("Len() = %d; want %d", got, len(l))
		}
		for _, p := range l {
			if score, ok := r.Score(p.id); score != p.score || !ok {
				t.Errorf("Score(%d) = %d, %t; want %d, true", p.id, score, ok, p.score)
			}
		}
		for _, id := range other {
			if score, ok := r.Score(id); score != 0 || ok {
				t.Errorf("Score(%d) = %d, %t; want 0, false", id, score, ok)
			}
		}
	}
}

// least: that the pair is the Least of r, also when asked again.
func least(t *testing.T, r *rank.Rank, want pair) {
	t.Helper()
	for range 2 {
		if id, score, ok := r.Least(); id != want.id || score != want.score || !ok {
			t.Errorf("Least() = %d, %d, %t; want %d, %d, true", id, score, ok, want.id, want.score)
		}
	}
}

// none: that r has nothing, in each way of asking.
func none(t *testing.T, r *rank.Rank) {
	t.Helper()
	for range 2 {
		if id, score, ok := r.Least(); id != 0 || score != 0 || ok {
			t.Errorf("Least() of none = %d, %d, %t; want 0, 0, false", id, score, ok)
		}
		if r.Len() != 0 {
			t.Errorf("Len() of none = %d", r.Len())
		}
		for _, id := range []int{first, -1, 0, 1, 5, last} {
			if score, ok := r.Score(id); score != 0 || ok {
				t.Errorf("Score(%d) of none = %d, %t; want 0, false", id, score, ok)
			}
			if r.Drop(id) {
				t.Errorf("Drop(%d) of none = true", id)
			}
		}
	}
}

// emptied: what r is as Least, dropped one by one, in the order in which it was told; r has none behind that.
func emptied(t *testing.T, r *rank.Rank) []pair {
	t.Helper()
	var told []pair
	for range r.Len() {
		id, score, ok := r.Least()
		if !ok {
			t.Fatalf("Least() = %d, %d, false, of %d", id, score, r.Len())
		}
		if !r.Drop(id) || r.Drop(id) {
			t.Fatalf("Drop(%d), of the Least, is not true and then false", id)
		}
		told = append(told, pair{id, score})
	}
	none(t, r)
	return told
}

func same(t *testing.T, got, want []pair) {
	t.Helper()
	if len(got) != len(want) {
		t.Fatalf("%v; want %v", got, want)
	}
	for i := range want {
		if got[i] != want[i] {
			t.Fatalf("%v; want %v", got, want)
		}
	}
}

// orders: the pairs in each order that there is.
func orders(l []pair) [][]pair {
	if len(l) == 0 {
		return [][]pair{nil}
	}
	var told [][]pair
	for i := range l {
		var rest []pair
		rest = append(append(rest, l[:i]...), l[i+1:]...)
		for _, o := range orders(rest) {
			told = append(told, append([]pair{l[i]}, o...))
		}
	}
	return told
}

// P18.1: a new one has none.
func TestNew(t *testing.T) {
	none(t, rank.New())
}

// P18.1: what one has another has not.
func TestNewEach(t *testing.T) {
	a, b := rank.New(), rank.New()
	if !a.Put(1, 5) {
		t.Error("Put(1, 5) = false")
	}
	none(t, b)
	if !b.Put(1, 7) || !b.Put(2, 6) {
		t.Error("Put into the other one = false")
	}
	has(t, a, []pair{{1, 5}}, 2)
	has(t, b, []pair{{1, 7}, {2, 6}})
	if !a.Drop(1) {
		t.Error("Drop(1) = false")
	}
	none(t, a)
	has(t, b, []pair{{1, 7}, {2, 6}})
	least(t, b, pair{2, 6})
}

// P18.1: each that is put is there, with its score, and none else.
func TestPut(t *testing.T) {
	l := []pair{{5, 10}, {3, 10}, {9, -7}, {-2, last}, {7, first}, {0, 0}, {first, 1}, {last, -1}}
	r := rank.New()
	for i, p := range l {
		if !r.Put(p.id, p.score) {
			t.Errorf("Put(%d, %d) = false", p.id, p.score)
		}
		has(t, r, l[:i+1], 4, 6, -3, first+1, last-1)
	}
}

// P18.1: of an id that is there nothing is turned by a Put, whatever the score is.
func TestPutAgain(t *testing.T) {
	l := []pair{{5, 10}, {3, 20}, {0, 0}, {first, 30}, {last, 40}, {-1, -5}}
	r := full(t, l...)
	for _, p := range l {
		for _, score := range []int64{p.score, p.score - 1, p.score + 1, 0, first, last, -6} {
			if r.Put(p.id, score) {
				t.Errorf("Put(%d, %d) = true, of what is there with %d", p.id, score, p.score)
			}
			has(t, r, l, 1, 2)
			least(t, r, pair{-1, -5})
		}
	}
	same(t, emptied(t, r), []pair{{-1, -5}, {0, 0}, {5, 10}, {3, 20}, {first, 30}, {last, 40}})
}

// P18.1: of an id that is not there nothing is turned by a Drop.
func TestDropNone(t *testing.T) {
	l := []pair{{5, 10}, {3, 20}, {8, -1}}
	r := full(t, l...)
	for _, id := range []int{0, 1, 2, 4, 6, 10, 20, -1, -5, first, last} {
		if r.Drop(id) {
			t.Errorf("Drop(%d) = true, of what is not there", id)
		}
		has(t, r, l, id)
		least(t, r, pair{8, -1})
	}
	same(t, emptied(t, r), []pair{{8, -1}, {5, 10}, {3, 20}})
}

// P18.1: what is dropped is there no more, once; it may be put again, with another score.
func TestDropAndPut(t *testing.T) {
	for _, id := range []int{first, -1, 0, 1, 9, last} {
		l := []pair{{4, 40}, {6, 60}}
		r := full(t, append(l, pair{id, 50})...)
		for _, score := range []int64{41, 50, first, last, 0, 61, 39} {
			if !r.Drop(id) || r.Drop(id) {
				t.Errorf("Drop(%d) is not true and then false", id)
			}
			has(t, r, l, id)
			least(t, r, l[0])
			if !r.Put(id, score) {
				t.Errorf("Put(%d, %d) = false, of what was dropped", id, score)
			}
			has(t, r, append(l[:2:2], pair{id, score}))
			want := l[0]
			if score < want.score {
				want = pair{id, score}
			}
			least(t, r, want)
		}
		same(t, emptied(t, r), []pair{{id, 39}, {4, 40}, {6, 60}})
	}
}

// P18.1, P18.3: each of some, put in each order, is dropped from where it stands; the others stay, and rise.
func TestDropMiddle(t *testing.T) {
	l := []pair{{7, -3}, {1, 10}, {2, 10}, {0, 11}, {-4, 12}}
	for _, o := range orders(l) {
		for i := range l {
			r := full(t, o...)
			if !r.Drop(l[i].id) {
				t.Fatalf("Drop(%d) = false", l[i].id)
			}
			rest := append(l[:i:i], l[i+1:]...)
			has(t, r, rest, l[i].id)
			least(t, r, rest[0])
			same(t, emptied(t, r), rest)
		}
	}
}

// P18.3: of many one is dropped, wherever it stands; among those that fill its place are some that must rise, and some that must sink.
func TestDropAnyOfMany(t *testing.T) {
	const n = 40
	for step := 1; step < 41; step++ {
		var l, sorted []pair
		for i := range n {
			// By 41, that has no divisor, each of 0 to n comes once.
			l = append(l, pair{i, int64((i + 1) * step % 41)})
			sorted = append(sorted, pair{(i + 1) * inverse(step) % 41, int64(i + 1)})
		}
		for i := range sorted {
			sorted[i].id--
		}
		for i := range sorted {
			r := full(t, l...)
			if !r.Drop(sorted[i].id) {
				t.Fatalf("Drop(%d) = false", sorted[i].id)
			}
			same(t, emptied(t, r), append(sorted[:i:i], sorted[i+1:]...))
		}
	}
}

// inverse: what times n is 1 by 41.
func inverse(n int) int {
	for i := range 41 {
		if i*n%41 == 1 {
			return i
		}
	}
	return 0
}

// P18.1, P18.2: one that is dropped down to none is as a new one, and is filled again.
func TestFillAgain(t *testing.T) {
	r := rank.New()
	none(t, r)
	for i := range 5 {
		l := []pair{{i, 5}, {i + 1, 6}, {i + 2, 7}}
		for _, p := range []pair{l[1], l[2], l[0]} {
			if !r.Put(p.id, p.score) {
				t.Errorf("Put(%d, %d) = false", p.id, p.score)
			}
		}
		has(t, r, l, i-1, i+3)
		least(t, r, l[0])
		same(t, emptied(t, r), l)
	}
	if !r.Put(0, 0) {
		t.Error("Put(0, 0) = false")
	}
	least(t, r, pair{0, 0})
	if !r.Drop(0) {
		t.Error("Drop(0) = false")
	}
	none(t, r)
}

// P18.2: Least by the score, and of those that are the same by the id, to both ends of 64 bits; whatever the order in which they were put.
func TestLeast(t *testing.T) {
	for _, l := range [][]pair{
		{{1, 5}},
		{{0, 0}},
		{{first, 7}, {-1, 7}, {0, 7}, {1, 7}, {last, 7}},
		{{first, first}, {last, first}, {first + 1, last}, {last - 1, last}},
		{{last, first}, {3, -1}, {2, 0}, {1, 1}, {first, last}},
		{{9, first}, {8, first + 1}, {7, last - 1}, {6, last}},
		{{first, 0}, {last, 0}},
		{{first + 1, -9}, {0, -9}, {last - 1, -9}, {last, -8}, {first, -7}},
		{{1 << 32, 1}, {1<<32 + 1, 1}, {0, 1 << 32}, {1, 1 << 32}, {2, 1<<32 + 1}},
	} {
		for _, o := range orders(l) {
			r := rank.New()
			best := o[0]
			for _, p := range o {
				r.Put(p.id, p.score)
				if p.score < best.score || p.score == best.score && p.id < best.id {
					best = p
				}
				least(t, r, best)
			}
			has(t, r, l, 77)
			same(t, emptied(t, r), l)
		}
	}
}

// P18.2: by the score, and where that is the same by the id; nothing is Before itself.
func TestBefore(t *testing.T) {
	ends := []int{first, first + 1, -1 << 32, -1, 0, 1, 2, 1 << 32, last - 1, last}
	for i, a := range ends {
		for j, b := range ends {
			for k, x := range ends {
				for l, y := range ends {
					// The ends rise, so their places say what is below what.
					want := i < j || i == j && k < l
					if got := rank.Before(int64(a), int64(b), x, y); got != want {
						t.Fatalf("Before(%d, %d, %d, %d) = %t", a, b, x, y, got)
					}
				}
			}
		}
	}
}

// P18.2: the func Score, written out: 1000 at steps, one more, and far above; cut towards 0; where 1000 times at has no room in 64 bits.
func TestScore(t *testing.T) {
	for _, c := range []struct {
		at, steps int
		want      int64
	}{
		{0, 1, 0}, {1, 1, 1000}, {2, 1, 1000}, {last, 1, 1000},
		{0, 3, 0}, {1, 3, 333}, {2, 3, 666}, {3, 3, 1000}, {4, 3, 1000}, {5, 3, 1000}, {6, 3, 1000}, {1000, 3, 1000},
		{1, 2, 500}, {1, 7, 142}, {6, 7, 857}, {7, 12, 583}, {11, 12, 916}, {12, 12, 1000}, {13, 12, 1000},
		{1, 999, 1}, {1, 1000, 1}, {1, 1001, 0}, {1000, 1001, 999}, {1001, 1001, 1000}, {1002, 1001, 1000}, {999, 1000, 999},
		{1, last, 0}, {0, last, 0}, {last - 1, last, 999}, {last, last, 1000}, {last, last - 1, 1000}, {last - 1, last - 1, 1000},
		{last / 1000, last, 0}, {last/1000 + 1, last, 1}, {last / 2, last, 499}, {last/2 + 1, last, 500},
		{1 << 62, last, 500}, {1 << 60, 1 << 62, 250}, {3 << 60, 1 << 62, 750}, {1<<62 - 1, 1 << 62, 999}, {1 << 54, 1 << 55, 500}, {1 << 61, 1 << 61, 1000},
		{9223372036854775, 9223372036854776, 999}, {9223372036854776, 9223372036854777, 999}, {18446744073709551, 18446744073709552, 999}, {18446744073709552, 18446744073709553, 999}, {18446744073709552, 36893488147419104, 500},
		{-1, 1, 0}, {-1, 3, 0}, {-3, 3, 0}, {-1, last, 0}, {first, 1, 0}, {first, last, 0}, {first + 1, 2, 0},
		{1, 0, 0}, {0, 0, 0}, {last, 0, 0}, {1, -1, 0}, {5, -1, 0}, {0, -1, 0}, {1, first, 0}, {last, first, 0}, {last, -1, 0}, {0, first, 0},
		{-1, -1, 0}, {-1, 0, 0}, {-3, -3, 0}, {-1, -2, 0}, {-2, -1, 0}, {first, first, 0}, {first, -1, 0}, {first, 0, 0}, {-1, first, 0},
	} {
		for range 2 {
			if got := rank.Score(c.at, c.steps); got != c.want {
				t.Errorf("Score(%d, %d) = %d; want %d", c.at, c.steps, got, c.want)
			}
		}
	}
}
