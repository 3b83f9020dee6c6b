package rank_test

import (
	"math/big"
	"testing"

	"jettison/rank"
)

// seq: numbers that look like chance, and are the same each time.
type seq uint64

func (s *seq) below(n int) int {
	*s = *s*6364136223846793005 + 1442695040888963407
	return int(uint64(*s>>33) % uint64(n))
}

func pick[T any](s *seq, l ...T) T {
	return l[s.below(len(l))]
}

// bits: any number of 64 bits.
func (s *seq) bits() int64 {
	return int64(s.below(1<<22)) | int64(s.below(1<<22))<<22 | int64(s.below(1<<20))<<44
}

// id: one of so many, so that they come again, and at times one at an end of 64 bits.
func (s *seq) id(n int) int {
	return pick(s, s.below(n), s.below(n), s.below(n), -s.below(n), first+s.below(2), last-s.below(2))
}

// score: mostly one of few, so that many are the same.
func (s *seq) score() int64 {
	return pick(s, int64(s.below(4)), int64(s.below(4)), int64(s.below(1000)), -int64(s.below(1000)), first+int64(s.below(2)), last-int64(s.below(2)), s.bits())
}

// model: the pairs that are there, in the order in which they are Least, each found by going by them all.
type model []pair

// place: at which place id stands; with none how many there are.
func (m model) place(id int) int {
	for i, p := range m {
		if p.id == id {
			return i
		}
	}
	return len(m)
}

func (m *model) put(id int, score int64) bool {
	if m.place(id) < len(*m) {
		return false
	}
	i := 0
	for i < len(*m) && ((*m)[i].score < score || (*m)[i].score == score && (*m)[i].id < id) {
		i++
	}
	var next model
	next = append(next, (*m)[:i]...)
	next = append(next, pair{id, score})
	*m = append(next, (*m)[i:]...)
	return true
}

func (m *model) drop(id int) bool {
	i := m.place(id)
	if i == len(*m) {
		return false
	}
	*m = append((*m)[:i:i], (*m)[i+1:]...)
	return true
}

func (m model) score(id int) (int64, bool) {
	i := m.place(id)
	if i == len(m) {
		return 0, false
	}
	return m[i].score, true
}

// agrees: that r is, in what it tells of all and of one id, as the model is.
func (m model) agrees(t *testing.T, r *rank.Rank, id int) {
	t.Helper()
	if r.Len() != len(m) {
		t.Fatalf("Len() = %d; want %d", r.Len(), len(m))
	}
	var want pair
	if len(m) > 0 {
		want = m[0]
	}
	if id, score, ok := r.Least(); (pair{id, score}) != want || ok != (len(m) > 0) {
		t.Fatalf("Least() = %d, %d, %t; want %v, %t", id, score, ok, want, len(m) > 0)
	}
	score, ok := r.Score(id)
	if wantScore, wantOK := m.score(id); score != wantScore || ok != wantOK {
		t.Fatalf("Score(%d) = %d, %t; want %d, %t", id, score, ok, wantScore, wantOK)
	}
}

// P18.1, P18.2: call by call against the model, in long runs of calls that look like chance, that grow and shrink by turns.
func TestModel(t *testing.T) {
	s := seq(18)
	put, again, dropped, missed, ties, empty := 0, 0, 0, 0, 0, 0
	for range 60 {
		r := rank.New()
		var m model
		n := pick(&s, 2, 5, 20, 100)
		for range 1000 {
			grows := s.below(200) < 100
			for range 1 + s.below(6) {
				id, score := s.id(n), s.score()
				if grows {
					want := m.put(id, score)
					if r.Put(id, score) != want {
						t.Fatalf("Put(%d, %d) = %t, of %v", id, score, !want, m)
					}
					if want {
						put++
					} else {
						again++
					}
				} else {
					if s.below(3) > 0 && len(m) > 0 {
						id = m[s.below(len(m))].id
					}
					want := m.drop(id)
					if r.Drop(id) != want {
						t.Fatalf("Drop(%d) = %t, of %v", id, !want, m)
					}
					if want {
						dropped++
					} else {
						missed++
					}
				}
				if len(m) == 0 {
					empty++
				}
				if len(m) > 1 && m[0].score == m[1].score {
					ties++
				}
				m.agrees(t, r, pick(&s, id, s.id(n)))
			}
		}
		for _, p := range m {
			m.agrees(t, r, p.id)
		}
		same(t, emptied(t, r), m)
	}
	if put < 10000 || again < 10000 || dropped < 10000 || missed < 10000 || ties < 10000 || empty < 1000 {
		t.Error("chance hit too little:", put, again, dropped, missed, ties, empty)
	}
}

// P18.3: what is dropped as Least, one by one, rises, each Before the next; each that was put is told once, with its score.
func TestRises(t *testing.T) {
	s := seq(183)
	ties := 0
	for range 300 {
		r := rank.New()
		var l []pair
		for range s.below(200) {
			if p := (pair{s.id(300), s.score()}); r.Put(p.id, p.score) {
				l = append(l, p)
			}
		}
		told := emptied(t, r)
		if len(told) != len(l) {
			t.Fatalf("%d were told, of %d", len(told), len(l))
		}
		for i := 1; i < len(told); i++ {
			a, b := told[i-1], told[i]
			if !rank.Before(a.score, b.score, a.id, b.id) || rank.Before(b.score, a.score, b.id, a.id) {
				t.Fatalf("%v was told ahead of %v", a, b)
			}
			if a.score == b.score {
				ties++
			}
		}
		// As many as were put, no two the same, and each of them told: each once.
		for _, p := range l {
			found := 0
			for _, q := range told {
				if q == p {
					found++
				}
			}
			if found != 1 {
				t.Fatalf("%v was told %d times", p, found)
			}
		}
	}
	if ties < 3000 {
		t.Error("chance hit too little:", ties)
	}
}

// P18.2, P18.3: what is told hangs on what is there, not on the order in which it came there, nor on what was there between.
func TestWhateverTheWay(t *testing.T) {
	s := seq(184)
	for range 300 {
		var m model
		for range s.below(60) {
			m.put(s.id(100), s.score())
		}
		a, b := rank.New(), rank.New()
		for _, p := range m {
			a.Put(p.id, p.score)
		}
		for i := range m {
			p := m[len(m)-1-i]
			for range s.below(3) {
				if !b.Put(p.id, s.score()) || !b.Drop(p.id) {
					t.Fatalf("put and dropped, %d is not there and gone", p.id)
				}
			}
			b.Put(p.id, p.score)
		}
		same(t, emptied(t, a), m)
		same(t, emptied(t, b), m)
	}
}

// P18.3: it goes on as it should with as many as there may be slots, and far more.
func TestMany(t *testing.T) {
	const n = 100000
	r := rank.New()
	for i := range n {
		// 7919 has no divisor that n has, so each of 0 to n comes once.
		if !r.Put(i*7919%n, int64(i%10)) {
			t.Fatalf("Put(%d, %d) = false", i*7919%n, i%10)
		}
	}
	if r.Len() != n {
		t.Errorf("Len() = %d; want %d", r.Len(), n)
	}
	was := pair{first, first}
	for range n {
		id, score, ok := r.Least()
		if !ok || !r.Drop(id) || !rank.Before(was.score, score, was.id, id) {
			t.Fatalf("Least() = %d, %d, %t, behind %v", id, score, ok, was)
		}
		was = pair{id, score}
	}
	none(t, r)
}

// exact: the func Score by the chapter's words alone, in numbers that never wrap.
func exact(at, steps int) int64 {
	if at < 0 || steps < 1 {
		return 0
	}
	if at > steps {
		return 1000
	}
	n := new(big.Int).Mul(big.NewInt(1000), big.NewInt(int64(at)))
	return n.Quo(n, big.NewInt(int64(steps))).Int64()
}

// P18.2: the func Score of all small numbers, at which it never falls as at rises, nor rises as steps does.
func TestScoreSmall(t *testing.T) {
	for steps := -3; steps < 1100; steps += 1 + max(0, steps)/40 {
		for at := -3; at < steps+5; at++ {
			if got, want := rank.Score(at, steps), exact(at, steps); got != want {
				t.Fatalf("Score(%d, %d) = %d; want %d", at, steps, got, want)
			}
		}
	}
}

// P18.2: the func Score of any numbers of 64 bits, and of those that are near one another, or near a thousandth of one another.
func TestScoreOfAny(t *testing.T) {
	s := seq(182)
	wide, between := 0, 0
	for range 300000 {
		steps := int(s.bits())
		if s.below(2) == 0 {
			steps = int(uint64(steps) >> (1 + s.below(62)))
		}
		at := pick(&s, int(s.bits()), steps, steps+s.below(3)-1, steps/1000*s.below(1002)+s.below(3)-1, steps/(1+s.below(12)), s.below(13), int(uint64(s.bits())>>(1+s.below(62))))
		want := exact(at, steps)
		if got := rank.Score(at, steps); got != want {
			t.Fatalf("Score(%d, %d) = %d; want %d", at, steps, got, want)
		}
		if want > 0 && want < 1000 {
			between++
			if at > last/1000 {
				wide++
			}
		}
	}
	if wide < 30000 || between < 60000 {
		t.Error("chance hit too little:", wide, between)
	}
}
