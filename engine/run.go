package engine

import (
	"maps"
	"slices"

	"jettison/api"
	"jettison/arena"
	"jettison/codec"
	"jettison/rank"
	"jettison/size"
	"jettison/step"
	"jettison/wire"
)

// Where the parts of a run stand among the bytes of its block, and how many bytes each has.
const (
	pathAt     = 0
	atAt       = 1
	tupleAt    = 2
	byteWidth  = 1
	indexWidth = 4
)

// each hands on the runs of a query, by id. Those that were there as it began are handed on, whatever is done to each.
func (g *Engine) each(q *query, do func(id int, r step.Run)) {
	for _, id := range slices.Sorted(maps.Keys(q.runs)) {
		do(id, g.read(q.runs[id]))
	}
}

// put is the block of a run.
func put(r step.Run) string {
	s := number(byteWidth, r.Path) + number(byteWidth, r.At)
	for _, index := range r.Tuple {
		s += number(indexWidth, index)
	}
	return s
}

// number is what n has in so many bytes: what is above them is cut off.
func number(width, n int) string {
	s, _ := codec.Put(width, uint64(n)&(1<<(8*width)-1))
	return s
}

// read is the run of a block, with its events as the store has them. Nothing else is kept of a run, so that all of it is
// charged. (There are never so many events that an index needs more than its bytes.)
func (g *Engine) read(block arena.Handle) step.Run {
	s, _ := g.arena.Get(block)
	at := func(place, width int) int {
		n, _ := codec.Get(s, place, width)
		return int(n)
	}
	steps := at(atAt, byteWidth)
	told := step.Run{Path: at(pathAt, byteWidth), At: steps, Tuple: make([]int, steps), Events: make([]wire.Event, steps)}
	for n := range steps {
		told.Tuple[n] = at(tupleAt+n*indexWidth, indexWidth)
		told.Events[n], _ = g.store.Get(told.Tuple[n])
	}
	return told
}

func (g *Engine) hold(tuple []int) {
	for _, index := range tuple {
		g.store.Hold(index)
	}
}

func (g *Engine) drop(tuple []int) {
	for _, index := range tuple {
		g.store.Drop(index)
	}
}

// end: the run is no more. Whether that is noted is not asked here.
func (g *Engine) end(q *query, id int, r step.Run) {
	g.arena.Free(q.runs[id])
	g.drop(r.Tuple)
	g.rank.Drop(id)
	delete(q.runs, id)
}

func (g *Engine) endAll(q *query) {
	g.each(q, func(id int, r step.Run) { g.end(q, id, r) })
}

// shed takes the id of a run that there is.
func (g *Engine) shed(id int) {
	for _, q := range g.queries {
		if block, ok := q.runs[id]; ok {
			r := g.read(block)
			q.lose(r, g.now)
			g.end(q, id, r)
		}
	}
}

// shedUntil sheds the least run, again and again, until there is enough, or no run.
func (g *Engine) shedUntil(enough func() bool) {
	for !enough() {
		id, _, ok := g.rank.Least()
		if !ok {
			return
		}
		g.shed(id)
	}
}

// hasRoom: would blocks of so many bytes each have room beside all that there are?
func (g *Engine) hasRoom(l ...int) bool {
	return g.arena.Fits(l...) && g.arena.Live()+len(l) <= api.MaxSlots
}

// admit takes a candidate that holds all its events but the last one, which has just come.
func (g *Engine) admit(q *query, c step.Run) {
	g.lastRun++
	id, score := g.lastRun, rank.Score(c.At, len(q.plan.Paths[c.Path]))
	text, last := put(c), c.At-1
	for !g.fits(text, c.Events[last], c.Tuple[last]) {
		least, held, ok := g.rank.Least()
		if !ok || !rank.Before(held, score, least, id) {
			q.lose(c, g.now)
			g.drop(c.Tuple[:last])
			return
		}
		g.shed(least)
	}
	if !g.store.Hold(c.Tuple[last]) {
		g.store.Put(c.Tuple[last], c.Events[last])
	}
	q.runs[id], _ = g.arena.Alloc(text)
	g.rank.Put(id, score)
}

// fits: is there room for the block of a run, and for an event, if that is not there yet? To shed a run may take away
// an event that was there.
func (g *Engine) fits(text string, e wire.Event, index int) bool {
	if g.store.Count(index) > 0 {
		return g.hasRoom(len(text))
	}
	return g.hasRoom(len(text), wire.Size(e))
}

// bytes: how many the block has.
func (g *Engine) bytes(block arena.Handle) int {
	s, _ := g.arena.Get(block)
	return len(s)
}

// byKey is what l has, by the numbers that it stands under.
func byKey(l map[int]int) (told []int) {
	for _, key := range slices.Sorted(maps.Keys(l)) {
		told = append(told, l[key])
	}
	return told
}

// rounded: what each of so many bytes is charged.
func rounded(l []int) []int {
	for at, n := range l {
		l[at], _ = size.Round(n)
	}
	return l
}
