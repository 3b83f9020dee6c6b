package engine

import (
	"slices"

	"jettison/arena"
	"jettison/means"
	"jettison/path"
	"jettison/spans"
	"jettison/step"
)

// query is one that is registered. Of its report Runs is told by runs alone, and Exact says that nothing was ever shed
// of it, or refused.
type query struct {
	Report
	id   int
	text arena.Handle
	plan step.Plan
	// last is when something was shed of it, or refused, the last time: nothing, while Exact holds.
	last int64
	// runs has the block of each run, by the run's id.
	runs map[int]arena.Handle
}

// report is the ledger as it is told at that time.
func (q *query) report(now int64) Report {
	told := q.Report
	told.State, told.Neg, told.Runs = copied(q.State), copied(q.Neg), len(q.runs)
	told.Exact = q.Exact || !means.Near(q.last, now, q.plan.Within)
	return told
}

// misses notes that something is lost now.
func (q *query) misses(now int64) {
	q.Exact, q.last = false, now
}

// lose notes that a run is shed now.
func (q *query) lose(r step.Run, now int64) {
	q.State = q.State.Add(r.Events[0].Time)
	q.Shed++
	q.misses(now)
}

// hasGuard: may an event of that kind be what must not come?
func (q *query) hasGuard(kind int) bool {
	return slices.ContainsFunc(q.plan.Paths, func(steps []path.Step) bool {
		return slices.ContainsFunc(steps, func(s path.Step) bool {
			return slices.ContainsFunc(s.Guards, func(g path.Guard) bool { return g.Kind == kind })
		})
	})
}

// copied: who is told of spans may write into what is told.
func copied(s spans.Spans) spans.Spans {
	return spans.Spans{L: slices.Clone(s.L)}
}
