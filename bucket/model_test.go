package bucket_test

import (
	"math/big"
	"testing"

	"jettison/bucket"
)

// seq: numbers that look like chance, and are the same each time.
type seq uint64

func (s *seq) below(n int) int {
	*s = *s*6364136223846793005 + 1442695040888963407
	return int(uint64(*s>>33) % uint64(n))
}

func pick[T any](s *seq, l ...T) T {
	return l[s.below(len(l))]
}

// bits: any number of 64 bits.
func (s *seq) bits() int64 {
	return int64(s.below(1<<22)) | int64(s.below(1<<22))<<22 | int64(s.below(1<<20))<<44
}

// size: mostly few, at times as many as may be.
func (s *seq) size() int {
	return pick(s, 0, 1, 1, 2, 3, s.below(12), s.below(12), s.below(mostTokens+1), mostTokens)
}

func (s *seq) every() int64 {
	return pick(s, 1, 1, 2, 3, 1+int64(s.below(20)), 1+int64(s.below(20)), 1+int64(s.below(1<<30)), mostEvery>>s.below(20), mostEvery-int64(s.below(3)), 1+s.bits()&(mostEvery-1))
}

// next: a time behind at, or ahead of it: near it by some Everys, or anywhere; it may wrap.
func (s *seq) next(at, every int64) int64 {
	return pick(s, at, at+int64(s.below(5)), at+int64(s.below(3))-1, at-int64(s.below(30)), at+every-1, at+every, at+every+1,
		at+every*int64(s.below(12)), at+every*int64(s.below(12))-1, at+every*int64(s.below(mostTokens)), s.bits(), first+int64(s.below(3)), last-int64(s.below(3)))
}

// model: a bucket by the chapter's words alone, in numbers that never wrap.
type model struct {
	size, left, every, at *big.Int
}

func modelOf(b bucket.Bucket) model {
	return model{big.NewInt(int64(b.Size)), big.NewInt(int64(b.Left)), big.NewInt(b.Every), big.NewInt(b.At)}
}

func (m model) full() bool {
	return m.left.Cmp(m.size) == 0
}

func (m *model) fill(now *big.Int) {
	if m.full() {
		if now.Cmp(m.at) > 0 {
			m.at = now
		}
		return
	}
	if now.Cmp(m.at) < 0 {
		return
	}
	n := new(big.Int).Sub(now, m.at)
	n.Quo(n, m.every)
	m.left = new(big.Int).Add(m.left, n)
	m.at = new(big.Int).Add(m.at, n.Mul(n, m.every))
	if m.left.Cmp(m.size) >= 0 {
		m.left, m.at = m.size, now
	}
}

func (m *model) take(now *big.Int) bool {
	m.fill(now)
	if m.left.Sign() == 0 {
		return false
	}
	m.left = new(big.Int).Sub(m.left, big.NewInt(1))
	return true
}

func (m model) bucket() bucket.Bucket {
	return of(int(m.size.Int64()), int(m.left.Int64()), m.every.Int64(), m.at.Int64())
}

// P17.2, P17.3: call by call against the model, from a new one on, at times that look like chance; there is never more than Size, nor less than none.
func TestModel(t *testing.T) {
	s := seq(17)
	taken, refused, back, ahead := 0, 0, 0, 0
	for range 20000 {
		b, _ := bucket.New(s.size(), s.every())
		m := modelOf(b)
		for range 30 {
			now := s.next(b.At, b.Every)
			if now < b.At {
				back++
			} else if now > b.At {
				ahead++
			}
			was := b
			ok, want := false, false
			if s.below(4) == 0 {
				b = b.Fill(now)
				m.fill(big.NewInt(now))
			} else {
				b, ok = b.Take(now)
				want = m.take(big.NewInt(now))
				if ok {
					taken++
				} else {
					refused++
				}
			}
			if b != m.bucket() || ok != want {
				t.Fatalf("%v at %d = %v, %t; want %v, %t", was, now, b, ok, m.bucket(), want)
			}
			if b.Left < 0 || b.Left > b.Size || !bucket.Right(b) {
				t.Fatalf("%v at %d = %v, that is not right", was, now, b)
			}
		}
	}
	if taken < 50000 || refused < 50000 || back < 50000 || ahead < 50000 {
		t.Error("chance hit too little:", taken, refused, back, ahead)
	}
}

// P17.2: any right one, not only what calls come to, at any now.
func TestModelOfAny(t *testing.T) {
	s := seq(172)
	wide := 0
	for range 300000 {
		size := s.size()
		b := of(size, pick(&s, 0, size, max(0, size-1), s.below(size+1)), s.every(), pick(&s, s.bits(), first, last, int64(s.below(100))))
		now := s.next(b.At, b.Every)
		if now >= b.At && now-b.At < 0 && b.Left < b.Size {
			wide++
		}
		m := modelOf(b)
		m.fill(big.NewInt(now))
		if got := b.Fill(now); got != m.bucket() {
			t.Fatalf("%v.Fill(%d) = %v; want %v", b, now, got, m.bucket())
		}
		m = modelOf(b)
		ok := m.take(big.NewInt(now))
		if got, gotOK := b.Take(now); got != m.bucket() || gotOK != ok {
			t.Fatalf("%v.Take(%d) = %v, %t; want %v, %t", b, now, got, gotOK, m.bucket(), ok)
		}
	}
	if wide < 10000 {
		t.Error("chance hit too little:", wide)
	}
}

// P17.3: tick by tick: a token each Every ticks since it was full, or since the last one was earned, is all that there is to take.
func TestTicks(t *testing.T) {
	s := seq(173)
	taken := 0
	for range 3000 {
		size, every := s.below(6), 1+s.below(9)
		b, _ := bucket.New(size, int64(every))
		left, waited := size, 0
		for now := range 60 {
			if now > 0 && left < size {
				waited++
			}
			if waited == every {
				left, waited = left+1, 0
			}
			for range s.below(4) * s.below(2) {
				got, ok := b.Take(int64(now))
				if ok != (left > 0) {
					t.Fatalf("%v.Take(%d) = %v, %t; there are %d", b, now, got, ok, left)
				}
				if b = got; ok {
					left--
					taken++
				}
			}
		}
	}
	if taken < 20000 {
		t.Error("chance took too little:", taken)
	}
}

// P17.3: from any time at which it is full, up to each time behind it, at most Size and what is between them divided by Every are taken; who asks often enough is given just that many.
func TestAtMost(t *testing.T) {
	s := seq(1733)
	full, just := 0, 0
	for range 4000 {
		b, _ := bucket.New(s.below(5), pick(&s, 1, 2, 3, 1+int64(s.below(20)), mostEvery>>s.below(4)))
		b = b.Fill(pick(&s, 0, 5, s.bits()))
		greedy := s.below(2) == 0
		var since []int64
		var taken []int
		for range 40 {
			ahead := b.Every * int64(s.below(8)) / 4
			if ahead < 0 || ahead > last-b.At {
				ahead = last - b.At
			}
			now := b.At + ahead
			if b = b.Fill(now); b.Left == b.Size {
				since, taken = append(since, now), append(taken, 0)
				full++
			}
			for asked, ok := s.below(4), true; ok && (asked > 0 || greedy && asked > -10); asked-- {
				if b, ok = b.Take(now); ok {
					for i := range taken {
						taken[i]++
					}
				}
			}
			for i, at := range since {
				most := b.Size + int((uint64(now)-uint64(at))/uint64(b.Every))
				if taken[i] > most {
					t.Fatalf("of %v %d were taken from %d to %d; %d are the most", b, taken[i], at, now, most)
				}
				if taken[i] == most && b.Size > 0 {
					just++
				}
			}
		}
	}
	if full < 20000 || just < 20000 {
		t.Error("chance hit too little:", full, just)
	}
}
