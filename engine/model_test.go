package engine_test

import (
	"fmt"
	"slices"
	"testing"

	"jettison/api"
	"jettison/bucket"
	"jettison/check"
	"jettison/engine"
	"jettison/means"
	"jettison/parse"
	"jettison/path"
	"jettison/pattern"
	"jettison/spans"
	"jettison/step"
	"jettison/wire"
)

// model: an engine by the chapter's words. It has no arena, no store and no rank: what is charged, held and least is found
// each time by going by all runs.
type model struct {
	c       engine.Config
	budget  int
	tokens  bucket.Bucket
	queries []*modelQuery
	// runs stand in the order of their ids.
	runs []modelRun
	// waiting are the candidates that are not admitted yet: of each all but the last one of its Tuple is held.
	waiting                      []step.Run
	lastQuery, lastRun           int
	in                           spans.Spans
	refused                      int
	now                          int64
	next                         int
	came                         []wire.Event
	refusedIndexes, refusedTimes map[int64]bool
	// hits has how often each thing came.
	hits map[string]int
}

type modelQuery struct {
	engine.Report
	id    int
	text  string
	query pattern.Query
	plan  step.Plan
	// lost says whether something was shed, or refused, and last when.
	lost bool
	last int64
	// from is the index of the first event that it may be asked of, told all that was told, shed the times at which what
	// was shed began.
	from   int
	told   [][]int
	begins map[int64]bool
}

type modelRun struct {
	of  *modelQuery
	id  int
	run step.Run
}

func (r modelRun) score() int {
	return 1000 * r.run.At / len(r.of.plan.Paths[r.run.Path])
}

func (r modelRun) before(other modelRun) bool {
	return r.score() < other.score() || r.score() == other.score() && r.id < other.id
}

func newModel(c engine.Config) *model {
	tokens, _ := bucket.New(c.Size, c.Every)
	return &model{c: c, budget: c.Capacity, tokens: tokens, now: first, refusedIndexes: map[int64]bool{}, refusedTimes: map[int64]bool{}, hits: map[string]int{}}
}

func (m *model) Register(text string) (id, at int, e api.Errno) {
	q, at, e := parse.Parse(text)
	if e != api.OK {
		return 0, at, e
	}
	if e := check.Check(m.c.Schema, q); e != api.OK {
		return 0, len(text), e
	}
	switch {
	case len(text) > 1024:
		return 0, len(text), api.ErrLimit
	case len(m.queries) == 8:
		return 0, len(text), api.ErrFull
	case sum(m.texts())+round(len(text)) > m.budget:
		return 0, len(text), api.ErrBudget
	}
	for m.Charged()+round(len(text)) > m.budget || len(m.Sizes()) == 4096 {
		m.hits["shed for a query"]++
		m.shed(m.least())
	}
	paths, _ := path.Of(m.c.Schema, q)
	m.lastQuery++
	m.queries = append(m.queries, &modelQuery{id: m.lastQuery, text: text, query: q, plan: step.Plan{Schema: m.c.Schema, Paths: paths, Within: q.Within, By: q.By}, from: m.next, begins: map[int64]bool{}})
	return m.lastQuery, len(text), api.OK
}

func (m *model) Unregister(id int) api.Errno {
	q := m.find(id)
	if q == nil {
		return api.ErrNone
	}
	m.queries = slices.DeleteFunc(m.queries, func(one *modelQuery) bool { return one == q })
	m.runs = slices.DeleteFunc(m.runs, func(r modelRun) bool { return r.of == q })
	return api.OK
}

func (m *model) Push(bytes string) (told []engine.Emit, wrong api.Errno) {
	e, wrong := wire.Get(bytes)
	if wrong != api.OK {
		return nil, wrong
	}
	if wrong := wire.Fits(m.c.Schema, e); wrong != api.OK {
		return nil, wrong
	}
	if e.Time < m.now {
		return nil, api.ErrLate
	}
	m.now = e.Time
	m.next++
	m.came = append(m.came, e)
	m.expire()
	tokens, ok := m.tokens.Take(m.now)
	m.tokens = tokens
	if !ok {
		m.refuse(e)
		return nil, api.OK
	}
	for _, q := range m.queries {
		l := means.Sort(m.ask(q, e))
		q.told = append(q.told, l...)
		for _, tuple := range l {
			told = append(told, engine.Emit{Query: q.id, Tuple: tuple})
		}
	}
	m.hits["told"] += len(told)
	return told, api.OK
}

func (m *model) expire() {
	m.runs = slices.DeleteFunc(m.runs, func(r modelRun) bool {
		if step.Expired(r.of.plan, r.run, m.now) {
			m.hits["expired"]++
			return true
		}
		return false
	})
}

func (m *model) refuse(e wire.Event) {
	index := int64(m.next - 1)
	m.in = m.in.Add(index)
	m.refused++
	m.refusedIndexes[index], m.refusedTimes[m.now] = true, true
	m.hits["refused"]++
	for _, q := range m.queries {
		q.lost, q.last = true, m.now
		runs := m.runsOf(q)
		guarded := false
		for _, steps := range q.plan.Paths {
			for _, s := range steps {
				for _, g := range s.Guards {
					guarded = guarded || g.Kind == e.Kind
				}
			}
		}
		if guarded && len(runs) == 0 {
			m.hits["no run to guard"]++
		}
		if guarded && len(runs) > 0 {
			m.hits["might have guarded"]++
			q.Neg = q.Neg.Add(m.now)
			q.Shed += len(runs)
			m.runs = slices.DeleteFunc(m.runs, func(r modelRun) bool { return r.of == q })
		}
	}
}

func (m *model) runsOf(q *modelQuery) (told []modelRun) {
	for _, r := range m.runs {
		if r.of == q {
			told = append(told, r)
		}
	}
	return told
}

func (m *model) ask(q *modelQuery, e wire.Event) (told [][]int) {
	asked := m.runsOf(q)
	for n := range q.plan.Paths {
		asked = append(asked, modelRun{of: q, run: step.Run{Path: n}})
	}
	for _, r := range asked {
		if !step.Matches(q.plan, r.run, e) {
			continue
		}
		longer := step.Extend(q.plan, r.run, e, m.next-1)
		if step.Done(q.plan, longer) {
			told = append(told, longer.Tuple)
		} else {
			m.waiting = append(m.waiting, longer)
		}
	}
	m.runs = slices.DeleteFunc(m.runs, func(r modelRun) bool {
		gone := r.of == q && step.Guarded(q.plan, r.run, e)
		if gone {
			m.hits["guarded"]++
		}
		return gone
	})
	for len(m.waiting) > 0 {
		m.admit(q, e)
	}
	return told
}

// admit: the first one of those that are waiting.
func (m *model) admit(q *modelQuery, e wire.Event) {
	m.lastRun++
	one := modelRun{of: q, id: m.lastRun, run: m.waiting[0]}
	was := false
	for {
		need := []int{round(2 + 4*one.run.At)}
		there := m.events()[m.next-1] > 0
		if !there {
			need = append(need, round(2+8+8*len(e.V)))
		}
		if was && !there {
			m.hits["the event was shed as well"]++
		}
		was = there
		sizes := m.Sizes()
		if sum(sizes)+sum(need) <= m.budget && len(sizes)+len(need) <= 4096 {
			break
		}
		least := m.least()
		if least < 0 || !m.runs[least].before(one) {
			if least < 0 {
				m.hits["no room"]++
			} else {
				m.hits["behind"]++
			}
			m.waiting = m.waiting[1:]
			m.lose(q, one.run)
			return
		}
		if m.runs[least].score() == one.score() {
			m.hits["the same score"]++
		} else {
			m.hits["before"]++
		}
		if m.runs[least].of != q {
			m.hits["of another query"]++
		}
		m.shed(least)
	}
	m.waiting = m.waiting[1:]
	m.runs = append(m.runs, one)
	m.hits["admitted"]++
}

// least: at which place the Least run stands; -1, if there is none.
func (m *model) least() int {
	told := -1
	for at, r := range m.runs {
		if told < 0 || r.before(m.runs[told]) {
			told = at
		}
	}
	return told
}

func (m *model) shed(at int) {
	m.lose(m.runs[at].of, m.runs[at].run)
	m.runs = slices.Delete(m.runs, at, at+1)
}

func (m *model) lose(q *modelQuery, r step.Run) {
	q.State = q.State.Add(r.Events[0].Time)
	q.begins[r.Events[0].Time] = true
	q.Shed++
	q.lost, q.last = true, m.now
}

func (m *model) Tick(now int64) api.Errno {
	if now < m.now {
		return api.ErrLate
	}
	m.now = now
	m.expire()
	return api.OK
}

func (m *model) SetBudget(n int) api.Errno {
	if n < 0 || n > m.c.Capacity {
		return api.ErrArg
	}
	if sum(m.texts()) > n {
		return api.ErrBudget
	}
	for m.Charged() > n {
		m.hits["shed for a budget"]++
		m.shed(m.least())
	}
	m.budget = n
	return api.OK
}

func (m *model) find(id int) *modelQuery {
	for _, q := range m.queries {
		if q.id == id {
			return q
		}
	}
	return nil
}

func (m *model) Ledger(id int) (engine.Report, bool) {
	q := m.find(id)
	if q == nil {
		return engine.Report{}, false
	}
	near := means.Near(q.last, m.now, q.query.Within)
	if q.lost && !near {
		m.hits["exact again"]++
	}
	return engine.Report{State: q.State, Neg: q.Neg, Shed: q.Shed, Runs: len(m.runsOf(q)), Exact: !q.lost || !near}, true
}

func (m *model) Input() (spans.Spans, int) { return m.in, m.refused }
func (m *model) Charged() int              { return sum(m.Sizes()) }
func (m *model) Budget() int               { return m.budget }
func (m *model) Now() int64                { return m.now }
func (m *model) Next() int                 { return m.next }

func (m *model) texts() (told []int) {
	for _, q := range m.queries {
		told = append(told, round(len(q.text)))
	}
	return told
}

// events: how often each event is held, by its index.
func (m *model) events() map[int]int {
	told := map[int]int{}
	for _, r := range m.runs {
		for _, index := range r.run.Tuple {
			told[index]++
		}
	}
	for _, r := range m.waiting {
		for _, index := range r.Tuple[:r.At-1] {
			told[index]++
		}
	}
	return told
}

func (m *model) Sizes() []int {
	told := m.texts()
	for _, r := range m.runs {
		told = append(told, round(2+4*r.run.At))
	}
	held := m.events()
	for index, e := range m.came {
		if held[index] > 0 {
			told = append(told, round(2+8+8*len(e.V)))
		}
	}
	return told
}

func sum(l []int) (told int) {
	for _, n := range l {
		told += n
	}
	return told
}

// seq: numbers that look like chance, and are the same each time.
type seq uint64

func (s *seq) below(n int) int {
	*s = *s*6364136223846793005 + 1442695040888963407
	return int(uint64(*s>>33) % uint64(n))
}

func pick[T any](s *seq, l ...T) T {
	return l[s.below(len(l))]
}

// texts: queries that may be.
func texts() []string {
	return []string{
		"A a ; B b WITHIN 5", "A a ; B b WITHIN 12 BY k", "A a ; !C c ; B b WITHIN 9", "A a ; !C c[c.x > a.x] ; B b{1,2} WITHIN 10 BY k",
		"A a{1,3} ; C c WITHIN 6", "(A a | B a) ; !D d ; (C c | E c) WITHIN 8", "D d WITHIN 0", "D d{1,2} ; A a WITHIN 7", "A a ; B b ; C c WITHIN 11",
		"A a[a.x > 1] ; !A g[g.x < a.x] ; A b[b.x >= a.x] ; B c WITHIN 10", "(A a | A a{1,2}) ; D d WITHIN 4", "E e ; D d WITHIN 20 ", "C c ; C d ; C e WITHIN 9 BY k",
		"A a ; !B g ; !C g[g.y == 1] ; D d WITHIN 6", "B a{1,2} ; !D g ; B b{1,2} ; A c WITHIN 5", "A a ; A b WITHIN 0", "(A a ; !B g ; C c | B b ; C c) ; D d WITHIN 9",
		padded("A a ; C c WITHIN 3", 70), padded("C a ; D c WITHIN 8", 130), "A a ; D d WITHIN 1000000000",
	}
}

// wrongTexts: what is no query, or none that may be.
func wrongTexts() []string {
	return []string{"", "A", "A a WITHIN", "A a $", "F a WITHIN 1", "A a[a.x] WITHIN 1", "!A a WITHIN 1", "A a WITHIN 1 BY z", "D d WITHIN 1 BY k", "A a{1,4} ; A b{1,4} ; A c{1,3} WITHIN 2", padded("A a WITHIN 1", 1025), padded("A a WITHIN 1", 2049)}
}

// walk: calls in a fixed order that looks like none, of an engine, of the model, and of an engine that is not asked what
// the model refuses.
type walk struct {
	t    *testing.T
	g    *engine.Engine
	twin *engine.Engine
	m    *model
	seq  seq
	// roomy: no SetBudget.
	roomy bool
}

func newWalk(t *testing.T, c engine.Config, n int) *walk {
	t.Helper()
	return &walk{t: t, g: begun(t, c), twin: begun(t, c), m: newModel(c), seq: seq(n)}
}

// time: mostly now, or a little later.
func (w *walk) time() int64 {
	d := int64(pick(&w.seq, 0, 0, 1, 1, 2, w.seq.below(5), w.seq.below(20)))
	if w.seq.below(15) == 0 {
		d = -1 - d
	}
	if at := w.m.now + d; (at < w.m.now) == (d < 0) {
		return at
	}
	// It would wrap.
	return w.m.now
}

func (w *walk) bytes() string {
	e := wire.Event{Kind: pick(&w.seq, A, A, A, B, B, C, C, D, E), Time: w.time()}
	for range kinds()[e.Kind].Fields {
		e.V = append(e.V, int64(w.seq.below(3)))
	}
	switch w.seq.below(40) {
	case 0:
		e.V = append(e.V, 1)
	case 1:
		e.Kind = 5 + w.seq.below(250)
	}
	s, _ := wire.Put(e)
	switch w.seq.below(60) {
	case 0:
		return s + "x"
	case 1:
		return s[:w.seq.below(len(s)+1)]
	}
	return s
}

// budget: around all that says what may be.
func (w *walk) budget() int {
	return pick(&w.seq, sum(w.m.texts()), w.m.Charged(), w.m.c.Capacity, w.seq.below(w.m.c.Capacity+1), w.m.c.Capacity) + pick(&w.seq, 0, 0, 1, -1, 16, -16)
}

// both asks the model and the engine, and the twin, if there is no error.
func (w *walk) both(name string, ask func(machine) (string, api.Errno)) {
	w.t.Helper()
	want, wrong := ask(w.m)
	if got, e := ask(w.g); got != want || e != wrong {
		w.t.Fatalf("%s = %s, %v; want %s, %v", name, got, e, want, wrong)
	}
	if wrong != api.OK {
		w.m.hits[fmt.Sprint("error ", int(wrong))]++
	} else if got, e := ask(w.twin); got != want || e != wrong {
		w.t.Fatalf("%s, asked of nothing wrong = %s, %v; want %s, %v", name, got, e, want, wrong)
	}
}

// step: one call.
func (w *walk) step(registers int) {
	w.t.Helper()
	switch n := w.seq.below(100); {
	case n < registers:
		text := pick(&w.seq, texts()...)
		if w.seq.below(4) == 0 {
			text = pick(&w.seq, wrongTexts()...)
		}
		w.both("Register "+text, func(m machine) (string, api.Errno) {
			id, at, e := m.Register(text)
			return fmt.Sprint(id, at), e
		})
	case n < registers+2:
		id := w.m.lastQuery + 2 - w.seq.below(w.m.lastQuery+3)
		if q := w.m.find(id); q != nil {
			w.explains(q)
		}
		w.both(fmt.Sprint("Unregister ", id), func(m machine) (string, api.Errno) { return "", m.Unregister(id) })
	case n < registers+6:
		now := w.time()
		w.both(fmt.Sprint("Tick ", now), func(m machine) (string, api.Errno) { return "", m.Tick(now) })
	case n < registers+10 && !w.roomy:
		n := w.budget()
		w.both(fmt.Sprint("SetBudget ", n), func(m machine) (string, api.Errno) { return "", m.SetBudget(n) })
	default:
		bytes := w.bytes()
		w.both(fmt.Sprintf("Push %x", bytes), func(m machine) (string, api.Errno) {
			l, e := m.Push(bytes)
			return text(l), e
		})
	}
	w.agrees()
}

// agrees: that all that is told is as the model tells it, and what P21.8 says of what is charged.
func (w *walk) agrees() {
	w.t.Helper()
	ids := w.m.lastQuery + 1
	want := state(w.m, ids)
	for _, g := range []*engine.Engine{w.g, w.twin} {
		if got := state(g, ids); got != want {
			w.t.Fatalf("%s; want %s", got, want)
		}
		if sum(g.Sizes()) != g.Charged() || g.Charged() > g.Budget() {
			w.t.Fatalf("Charged() = %d, Budget() = %d, Sizes() = %v", g.Charged(), g.Budget(), g.Sizes())
		}
	}
}

// explains: what P21.8 says of what was told of q, and of what was not; and that ledgers have as ends just what was shed, or
// refused.
func (w *walk) explains(q *modelQuery) {
	w.t.Helper()
	r, _ := w.g.Ledger(q.id)
	l, e := means.M(w.m.c.Schema, q.query, w.m.came[q.from:])
	if e != api.OK {
		w.t.Fatal(e)
	}
	meant := map[string]bool{}
	told := map[string]bool{}
	for _, tuple := range q.told {
		told[fmt.Sprint(tuple)] = true
	}
	if len(told) != len(q.told) {
		w.t.Fatalf("%q: told twice: %v", q.text, q.told)
	}
	for _, tuple := range l {
		for at := range tuple {
			tuple[at] += q.from
		}
		meant[fmt.Sprint(tuple)] = true
		if !told[fmt.Sprint(tuple)] && !w.isExplained(r, tuple) {
			w.t.Fatalf("%q: %v is not told, of %v; ledger %v", q.text, tuple, w.m.came, r)
		}
	}
	for tuple := range told {
		if !meant[tuple] {
			w.t.Fatalf("%q: %v is told, and not meant", q.text, tuple)
		}
	}
	w.m.hits["not told"] += len(meant) - len(told)
	w.areHonest(q, r)
}

// isExplained counts which of the three explains it.
func (w *walk) isExplained(r engine.Report, tuple []int) bool {
	from, to := w.m.came[tuple[0]].Time, w.m.came[tuple[len(tuple)-1]].Time
	refused := slices.ContainsFunc(tuple, func(index int) bool { return w.m.refusedIndexes[int64(index)] })
	for name, ok := range map[string]bool{"by refused": refused, "by State": r.State.Has(from), "by Neg": r.Neg.Meets(from, to)} {
		if ok {
			w.m.hits[name]++
		}
	}
	return refused || r.State.Has(from) || r.Neg.Meets(from, to)
}

func (w *walk) areHonest(q *modelQuery, r engine.Report) {
	w.t.Helper()
	in, _ := w.g.Input()
	for _, c := range []struct {
		name string
		s    spans.Spans
		ends map[int64]bool
	}{{"State", r.State, q.begins}, {"Neg", r.Neg, w.m.refusedTimes}, {"Input", in, w.m.refusedIndexes}} {
		for _, one := range c.s.L {
			if !c.ends[one[0]] || !c.ends[one[1]] || len(c.s.L) > api.MaxSpans {
				w.t.Fatalf("%q: %s is %v; shed, or refused, was just %v", q.text, c.name, c.s, c.ends)
			}
		}
	}
}

// ends: all queries that there are at the end.
func (w *walk) ends(hits map[string]int) {
	w.t.Helper()
	for _, q := range w.m.queries {
		w.explains(q)
	}
	for name, n := range w.m.hits {
		hits[name] += n
	}
}

// P21.1 to P21.8: long runs of calls against the model, in rooms that are mostly too small.
func TestModel(t *testing.T) {
	hits := map[string]int{}
	for n := range 1000 {
		s := seq(n)
		c := engine.Config{Schema: kinds(), Capacity: pick(&s, s.below(200), s.below(500), s.below(500), 300+s.below(1000), 300+s.below(1000), greatest), Size: pick(&s, s.below(4), 10, 100, api.MaxTokens), Every: pick(&s, int64(1+s.below(9)), 1, 2, maxEvery)}
		w := newWalk(t, c, n)
		if base := pick(&s, 0, first, last-100, -50, 1000); base != first {
			w.both("Tick", func(m machine) (string, api.Errno) { return "", m.Tick(int64(base)) })
		}
		for range 1 + s.below(pick(&s, 4, 4, 4, 20)) {
			w.step(100)
		}
		for range 90 {
			w.step(5)
		}
		w.ends(hits)
	}
	for _, name := range []string{
		"told", "not told", "by refused", "by State", "by Neg", "expired", "guarded", "refused", "might have guarded", "no run to guard", "shed for a query", "shed for a budget", "admitted", "before", "the same score", "behind", "no room", "of another query", "the event was shed as well", "exact again",
		"error 1", "error 2", "error 3", "error 4", "error 5", "error 6", "error 7", "error 8", "error 9", "error 10", "error 11",
	} {
		if hits[name] < 20 {
			t.Errorf("%s: came %d times only", name, hits[name])
		}
	}
}

// P21.8: with room for all, and a token for each, all of M is told.
func TestAllTold(t *testing.T) {
	hits, told := map[string]int{}, 0
	for n := range 60 {
		w := newWalk(t, config(), n)
		w.roomy = true
		for range 30 {
			w.step(20)
		}
		for range 60 {
			w.step(0)
		}
		w.ends(hits)
		for _, q := range w.m.queries {
			l, _ := means.M(w.m.c.Schema, q.query, w.m.came[q.from:])
			if len(l) != len(q.told) {
				t.Fatalf("%q: %d told; want %d", q.text, len(q.told), len(l))
			}
			reports(t, w.g, q.id, ledger(nil, nil, 0, len(w.m.runsOf(q)), true))
			told += len(l)
		}
	}
	if told < 1000 || hits["not told"] > 0 {
		t.Errorf("%d were told, %d were not", told, hits["not told"])
	}
}

// P21.2, P21.5: so it is, where it is the slots that there are too few of.
func TestModelSlots(t *testing.T) {
	w := newWalk(t, config(), 1)
	push := func(bytes string) {
		w.both(fmt.Sprintf("Push %x", bytes), func(m machine) (string, api.Errno) {
			l, e := m.Push(bytes)
			return text(l), e
		})
	}
	for _, query := range []string{"(D a|D a|D a|D a) ; A b{1,4} WITHIN 500", "C a ; !E g ; C b ; C c ; B b WITHIN 9", "E a{1,2} ; C b WITHIN 6"} {
		w.both("Register", func(m machine) (string, api.Errno) { return "", registered(m, query) })
	}
	for n := range 238 {
		push(event(D, int64(n)))
	}
	full := 0
	for range 60 {
		switch n := w.seq.below(10); n {
		case 0:
			w.both("Register", func(m machine) (string, api.Errno) { return "", registered(m, "B a ; B b WITHIN 2") })
		case 1:
			id := 4 + w.seq.below(max(w.m.lastQuery-2, 1))
			w.both("Unregister", func(m machine) (string, api.Errno) { return "", m.Unregister(id) })
		default:
			push(event(pick(&w.seq, B, C, D, E), w.m.now+int64(w.seq.below(3))))
		}
		w.agrees()
		if len(w.g.Sizes()) == api.MaxSlots {
			full++
		}
	}
	if full < 10 {
		t.Errorf("just %d times there were MaxSlots blocks", full)
	}
}

func registered(m machine, text string) api.Errno {
	_, _, e := m.Register(text)
	return e
}
