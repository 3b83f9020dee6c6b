package bucket_test

import (
	"math"
	"testing"

	"jettison/api"
	"jettison/bucket"
)

const (
	mostTokens = 1000000
	mostEvery  = 1 << 62
	first      = math.MinInt64
	last       = math.MaxInt64
)

// of: a Bucket whose fields stand in the chapter's order.
func of(size, left int, every, at int64) bucket.Bucket {
	return bucket.Bucket{Size: size, Left: left, Every: every, At: at}
}

// wrong: Buckets that are not right, each field on both sides, next to what may be and at the ends.
func wrong() []bucket.Bucket {
	return []bucket.Bucket{
		{},
		of(-1, 0, 1, 0), of(-1, -1, 1, 0), of(math.MinInt, 0, 1, 0), of(math.MinInt, math.MinInt, 1, 0),
		of(mostTokens+1, 0, 1, 0), of(mostTokens+1, mostTokens, 1, 0), of(mostTokens+1, mostTokens+1, 1, 0), of(math.MaxInt, 1, 1, 0), of(math.MaxInt, math.MaxInt, 1, 0),
		of(1, -1, 1, 0), of(0, -1, 1, 0), of(5, math.MinInt, 1, 0), of(mostTokens, -1, 1, 0),
		of(0, 1, 1, 0), of(1, 2, 1, 0), of(5, 6, 1, 0), of(5, math.MaxInt, 1, 0), of(mostTokens, mostTokens+1, 1, 0),
		of(3, 1, 0, 0), of(3, 1, -1, 0), of(3, 3, 0, 7), of(3, 1, first, 0), of(3, 0, 1-mostEvery, 0),
		of(3, 1, mostEvery+1, 0), of(3, 3, mostEvery+1, -7), of(3, 1, last, 0), of(0, 0, 0, 0),
	}
}

// right: Buckets that are right, at the least and the most of each field, and next to them.
func right() []bucket.Bucket {
	var told []bucket.Bucket
	for _, size := range []int{0, 1, 2, 3, mostTokens - 1, mostTokens} {
		for _, left := range []int{0, 1, size / 2, size - 1, size} {
			if left < 0 || left > size {
				continue
			}
			for _, every := range []int64{1, 2, 10, mostEvery - 1, mostEvery} {
				for _, at := range []int64{first, first + 1, -mostEvery, -10, -1, 0, 1, 10, mostEvery, last - 1, last} {
					told = append(told, of(size, left, every, at))
				}
			}
		}
	}
	return told
}

// P17.1: which are right, from the least to the most of each field, at any At.
func TestRight(t *testing.T) {
	for _, b := range right() {
		if !bucket.Right(b) {
			t.Errorf("Right(%v) = false", b)
		}
	}
	for _, b := range wrong() {
		for _, at := range []int64{first, -1, 0, 1, last} {
			if b.At = at; bucket.Right(b) {
				t.Errorf("Right(%v) = true", b)
			}
		}
	}
}

// P17.1: New tells a full one, at 0.
func TestNew(t *testing.T) {
	for _, size := range []int{0, 1, 2, 7, mostTokens - 1, mostTokens} {
		for _, every := range []int64{1, 2, 10, mostEvery - 1, mostEvery} {
			for range 2 {
				if b, e := bucket.New(size, every); b != of(size, size, every, 0) || e != api.OK {
					t.Errorf("New(%d, %d) = %v, %d", size, every, b, e)
				}
			}
		}
	}
}

// P17.1, P2: what New refuses, each cause by itself and both at once, with nothing beside the error.
func TestNewRefuses(t *testing.T) {
	sizes := []int{math.MinInt, -mostTokens, -2, -1, mostTokens + 1, mostTokens + 2, math.MaxInt - 1, math.MaxInt}
	everies := []int64{first, first + 1, -mostEvery, -2, -1, 0, mostEvery + 1, mostEvery + 2, last - 1, last}
	refused := func(size int, every int64) {
		if b, e := bucket.New(size, every); b != (bucket.Bucket{}) || e != api.ErrArg {
			t.Errorf("New(%d, %d) = %v, %d", size, every, b, e)
		}
	}
	for _, size := range sizes {
		for _, every := range []int64{1, 10, mostEvery} {
			refused(size, every)
		}
		for _, every := range everies {
			refused(size, every)
		}
	}
	for _, every := range everies {
		for _, size := range []int{0, 1, mostTokens} {
			refused(size, every)
		}
	}
}

// P17.1: the limit is the one that api has.
func TestMostTokens(t *testing.T) {
	if api.MaxTokens != mostTokens {
		t.Errorf("MaxTokens is %d", api.MaxTokens)
	}
}

// P17.2: one that is not right is told as it is, by Fill and by Take, and nothing is taken, whether it has something Left or not.
func TestNotRight(t *testing.T) {
	for _, b := range wrong() {
		for _, at := range []int64{first, -1, 0, 1, last} {
			b.At = at
			for _, now := range []int64{first, -1, 0, 1, 5, 100, mostEvery, last} {
				if got := b.Fill(now); got != b {
					t.Errorf("%v.Fill(%d) = %v", b, now, got)
				}
				if got, ok := b.Take(now); got != b || ok {
					t.Errorf("%v.Take(%d) = %v, %t", b, now, got, ok)
				}
			}
		}
	}
}

// filled: what Fill must make of a right one; what Take must, follows.
type filled struct {
	b    bucket.Bucket
	now  int64
	left int
	at   int64
}

func checkFilled(t *testing.T, l []filled) {
	t.Helper()
	for _, c := range l {
		want := c.b
		want.Left, want.At = c.left, c.at
		b := c.b
		for range 2 {
			if got := b.Fill(c.now); got != want {
				t.Errorf("%v.Fill(%d) = %v; want %v", c.b, c.now, got, want)
			}
		}
		ok := want.Left > 0
		if ok {
			want.Left--
		}
		for range 2 {
			if got, gotOK := b.Take(c.now); got != want || gotOK != ok {
				t.Errorf("%v.Take(%d) = %v, %t; want %v, %t", c.b, c.now, got, gotOK, want, ok)
			}
		}
		if b != c.b {
			t.Errorf("%v was turned to %v", c.b, b)
		}
	}
}

// P17.2: a now just below At, at it, just short of Every behind it, just at it, and many times so.
func TestFill(t *testing.T) {
	checkFilled(t, []filled{
		{of(5, 1, 10, 100), first, 1, 100},
		{of(5, 1, 10, 100), -100, 1, 100},
		{of(5, 1, 10, 100), 89, 1, 100},
		{of(5, 1, 10, 100), 90, 1, 100},
		{of(5, 1, 10, 100), 99, 1, 100},
		{of(5, 1, 10, 100), 100, 1, 100},
		{of(5, 1, 10, 100), 101, 1, 100},
		{of(5, 1, 10, 100), 109, 1, 100},
		{of(5, 1, 10, 100), 110, 2, 110},
		{of(5, 1, 10, 100), 111, 2, 110},
		{of(5, 1, 10, 100), 119, 2, 110},
		{of(5, 1, 10, 100), 120, 3, 120},
		{of(5, 1, 10, 100), 129, 3, 120},
		{of(5, 1, 10, 100), 130, 4, 130},
		{of(5, 1, 10, 100), 139, 4, 130},
		{of(5, 0, 10, 100), 99, 0, 100},
		{of(5, 0, 10, 100), 109, 0, 100},
		{of(5, 0, 10, 100), 110, 1, 110},
		{of(5, 0, 10, -100), -91, 0, -100},
		{of(5, 0, 10, -100), -90, 1, -90},
		{of(5, 0, 10, -5), 4, 0, -5},
		{of(5, 0, 10, -5), 5, 1, 5},
		{of(5, 0, 1, 0), 4, 4, 4},
		{of(1, 0, 10, 7), 16, 0, 7},
		{of(mostTokens, 0, 10, 3), 9999992, 999998, 9999983},
		{of(mostTokens, 0, 10, 3), 9999993, 999999, 9999993},
		{of(mostTokens, 999990, 10, 3), 102, 999999, 93},
	})
}

// P17.2: Left that comes to just Size, and to more: then At is now, not a number of times Every.
func TestFillToSize(t *testing.T) {
	checkFilled(t, []filled{
		{of(5, 1, 10, 100), 140, 5, 140},
		{of(5, 1, 10, 100), 141, 5, 141},
		{of(5, 1, 10, 100), 149, 5, 149},
		{of(5, 1, 10, 100), 150, 5, 150},
		{of(5, 1, 10, 100), 157, 5, 157},
		{of(5, 1, 10, 100), last, 5, last},
		{of(5, 4, 10, 100), 109, 4, 100},
		{of(5, 4, 10, 100), 110, 5, 110},
		{of(5, 4, 10, 100), 119, 5, 119},
		{of(1, 0, 10, 7), 17, 1, 17},
		{of(1, 0, 10, 7), 26, 1, 26},
		{of(1, 0, 10, 7), 27, 1, 27},
		{of(5, 0, 1, 0), 5, 5, 5},
		{of(5, 0, 1, 0), 6, 5, 6},
		{of(mostTokens, 0, 10, 3), 10000003, mostTokens, 10000003},
		{of(mostTokens, 0, 10, 3), 10000004, mostTokens, 10000004},
		{of(mostTokens, mostTokens-1, mostEvery, 0), mostEvery - 1, mostTokens - 1, 0},
		{of(mostTokens, mostTokens-1, mostEvery, 0), mostEvery, mostTokens, mostEvery},
		{of(mostTokens, mostTokens-1, mostEvery, 0), mostEvery + 1, mostTokens, mostEvery + 1},
	})
}

// P17.2: Left that is Size already: At is the greater one of At and now; so of a Size of 0, of which nothing is ever taken.
func TestFillFull(t *testing.T) {
	for _, size := range []int{0, 1, 5, mostTokens} {
		for _, every := range []int64{1, 10, mostEvery} {
			checkFilled(t, []filled{
				{of(size, size, every, 100), first, size, 100},
				{of(size, size, every, 100), 90, size, 100},
				{of(size, size, every, 100), 99, size, 100},
				{of(size, size, every, 100), 100, size, 100},
				{of(size, size, every, 100), 101, size, 101},
				{of(size, size, every, 100), 109, size, 109},
				{of(size, size, every, 100), 110, size, 110},
				{of(size, size, every, 100), last, size, last},
				{of(size, size, every, -3), -4, size, -3},
				{of(size, size, every, -3), -2, size, -2},
				{of(size, size, every, -3), 0, size, 0},
				{of(size, size, every, first), first, size, first},
				{of(size, size, every, first), first + 1, size, first + 1},
				{of(size, size, every, first), last, size, last},
				{of(size, size, every, last), first, size, last},
				{of(size, size, every, last), last - 1, size, last},
				{of(size, size, every, last), last, size, last},
			})
		}
	}
}

// P17.2, P6: At and now at both ends of 64 bits, where what is between them leaves 64 bits, and is meant as an exact number.
func TestFillAtEnds(t *testing.T) {
	checkFilled(t, []filled{
		{of(5, 1, 1, last), first, 1, last},
		{of(5, 1, 1, last), last - 1, 1, last},
		{of(5, 1, 1, last), last, 1, last},
		{of(5, 1, 1, last-1), last, 2, last},
		{of(5, 1, 2, last-1), last, 1, last - 1},
		{of(5, 1, 1, first), first, 1, first},
		{of(5, 1, 1, first), first + 1, 2, first + 1},
		{of(5, 1, 1, first), last, 5, last},
		{of(mostTokens, 0, 1, first), last, mostTokens, last},
		{of(mostTokens, 0, 1, first), first + mostTokens - 1, mostTokens - 1, first + mostTokens - 1},
		{of(mostTokens, 0, 1, first), first + mostTokens, mostTokens, first + mostTokens},
		// From -2^63 to 2^63 - 1 it is 2^64 - 1: three times 2^62, and 2^62 - 1 more.
		{of(5, 1, mostEvery, first), last, 4, mostEvery},
		{of(4, 1, mostEvery, first), last, 4, last},
		{of(3, 1, mostEvery, first), last, 3, last},
		{of(9, 0, mostEvery, first), mostEvery, 3, mostEvery},
		{of(9, 0, mostEvery, first), mostEvery - 1, 2, 0},
		{of(9, 0, mostEvery, first), 0, 2, 0},
		{of(9, 0, mostEvery, first), -1, 1, -mostEvery},
		{of(9, 0, mostEvery, first), -mostEvery, 1, -mostEvery},
		{of(9, 0, mostEvery, first), -mostEvery - 1, 0, first},
		{of(9, 0, mostEvery-1, first), last, 4, mostEvery - 4 + mostEvery},
		{of(9, 0, mostEvery, -1), last, 2, last},
		{of(9, 0, mostEvery, 0), last, 1, mostEvery},
		{of(9, 0, mostEvery, -mostEvery), last, 2, mostEvery},
		{of(9, 0, mostEvery, -mostEvery-1), last, 3, last},
		// 2^64 - 1 is 5 times 3689348814741910323, with nothing over.
		{of(9, 0, 3689348814741910323, first), last, 5, last},
		{of(9, 0, 3689348814741910323, first), last - 1, 4, last - 3689348814741910323},
		{of(5, 0, 3689348814741910323, first), last, 5, last},
		{of(9, 0, 3689348814741910324, first), last, 4, last - 3689348814741910319},
		// A difference that is taken for one below 0, or for a small one, would earn less.
		{of(mostTokens, 7, 1<<44, first), last, mostTokens, last},
		{of(mostTokens, 0, 1<<44+1<<25, first), first + 1<<62, 262143, first + 262143*(1<<44+1<<25)},
	})
}

// took: a call of Take, and what it must tell.
type took struct {
	now  int64
	ok   bool
	left int
	at   int64
}

func checkTaken(t *testing.T, b bucket.Bucket, l []took) {
	t.Helper()
	for i, c := range l {
		was := b
		got, ok := b.Take(c.now)
		want := of(b.Size, c.left, b.Every, c.at)
		if ok != c.ok || got != want {
			t.Errorf("%d: %v.Take(%d) = %v, %t; want %v, %t", i, b, c.now, got, ok, want, c.ok)
		}
		if b != was {
			t.Errorf("%d: %v was turned to %v", i, was, b)
		}
		b = got
	}
}

// P17.2: the chapter's example.
func TestExample(t *testing.T) {
	b, _ := bucket.New(1, 10)
	checkTaken(t, b, []took{{0, true, 0, 0}, {5, false, 0, 0}, {10, true, 0, 10}})
}

// P17.2: what is over of a time that was too short is kept for later; what is over when it is full again is not; a time that goes back earns nothing and takes what is there.
func TestTake(t *testing.T) {
	b, _ := bucket.New(2, 10)
	checkTaken(t, b, []took{
		{-5, true, 1, 0}, {3, true, 0, 0}, {9, false, 0, 0},
		{19, true, 0, 10}, {19, false, 0, 10}, {20, true, 0, 20},
		{45, true, 1, 45}, {45, true, 0, 45}, {54, false, 0, 45}, {55, true, 0, 55},
		{70, true, 0, 65}, {50, false, 0, 65}, {74, false, 0, 65}, {75, true, 0, 75},
		{99, true, 1, 99}, {98, true, 0, 99}, {first, false, 0, 99}, {109, true, 0, 109},
		{last, true, 1, last}, {first, true, 0, last}, {last, false, 0, last},
	})
}

// P17.2: nothing is ever taken of a Size of 0; its At goes on all the same.
func TestTakeOfNone(t *testing.T) {
	b, _ := bucket.New(0, 1)
	checkTaken(t, b, []took{{-1, false, 0, 0}, {0, false, 0, 0}, {1, false, 0, 1}, {0, false, 0, 1}, {500, false, 0, 500}, {last, false, 0, last}, {first, false, 0, last}})
}

// P17.2: down to the last one, and no more; all at one time.
func TestTakeAll(t *testing.T) {
	for _, size := range []int{1, 2, 3, 1000, mostTokens} {
		b, _ := bucket.New(size, 7)
		n := 0
		for ok := true; ok && n <= size; {
			if b, ok = b.Take(6); ok {
				n++
			}
		}
		if n != size || b != of(size, 0, 7, 6) {
			t.Errorf("of %d %d were taken, %v is left", size, n, b)
		}
	}
}
