package engine_test

import (
	"fmt"
	"math"
	"slices"
	"strings"
	"testing"

	"jettison/api"
	"jettison/engine"
	"jettison/schema"
	"jettison/spans"
	"jettison/wire"
)

const (
	first    = math.MinInt64
	last     = math.MaxInt64
	greatest = 1 << 24
	maxEvery = 1 << 62
)

// The kinds of the tests: their events are of 26, 26, 34, 10 and 74 bytes.
const (
	A = iota
	B
	C
	D
	E
)

func kinds() []schema.Kind {
	return []schema.Kind{
		{Name: "A", Fields: []string{"k", "x"}},
		{Name: "B", Fields: []string{"k", "y"}},
		{Name: "C", Fields: []string{"k", "x", "y"}},
		{Name: "D"},
		{Name: "E", Fields: []string{"k", "x", "y", "z", "a", "b", "c", "d"}},
	}
}

// machine: what an engine can be asked; the model of the tests can be asked the same.
type machine interface {
	Register(text string) (id, at int, e api.Errno)
	Unregister(id int) api.Errno
	Push(bytes string) ([]engine.Emit, api.Errno)
	Tick(now int64) api.Errno
	SetBudget(n int) api.Errno
	Ledger(id int) (engine.Report, bool)
	Input() (spans.Spans, int)
	Charged() int
	Budget() int
	Sizes() []int
	Now() int64
	Next() int
}

// state: all that is told of a machine, with the ledgers of ids up to that one, as a text.
func state(m machine, ids int) string {
	in, refused := m.Input()
	told := fmt.Sprint(m.Charged(), m.Budget(), m.Sizes(), m.Now(), m.Next(), in, refused)
	for id := -1; id <= ids; id++ {
		r, ok := m.Ledger(id)
		told += fmt.Sprintf(" %d:%v %v", id, r, ok)
	}
	return told
}

// config: with room, and a token, for all.
func config() engine.Config {
	return engine.Config{Schema: kinds(), Capacity: greatest, Size: api.MaxTokens, Every: 1}
}

func begun(t *testing.T, c engine.Config, queries ...string) *engine.Engine {
	t.Helper()
	g, e := engine.New(c)
	if e != api.OK || g == nil {
		t.Fatalf("New(%v): %v", c, e)
	}
	for n, text := range queries {
		registers(t, g, text, n+1)
	}
	return g
}

// within: an engine with a token for all, and so many bytes.
func within(t *testing.T, capacity int, queries ...string) *engine.Engine {
	t.Helper()
	c := config()
	c.Capacity = capacity
	return begun(t, c, queries...)
}

func registers(t *testing.T, g *engine.Engine, text string, want int) {
	t.Helper()
	if id, at, e := g.Register(text); id != want || at != len(text) || e != api.OK {
		t.Fatalf("Register(%q) = %d, %d, %v; want %d, %d, OK", text, id, at, e, want, len(text))
	}
}

// refuses: Register tells that error at that place, and nothing has changed.
func refuses(t *testing.T, g *engine.Engine, text string, at int, want api.Errno) {
	t.Helper()
	before := state(g, 20)
	if id, place, e := g.Register(text); id != 0 || place != at || e != want {
		t.Errorf("Register(%.60q) = %d, %d, %v; want 0, %d, %v", text, id, place, e, at, want)
	}
	if after := state(g, 20); after != before {
		t.Errorf("Register(%.60q) has changed %s to %s", text, before, after)
	}
}

// padded: the text with spaces behind it, so that it has so many bytes.
func padded(text string, n int) string {
	return text + strings.Repeat(" ", n-len(text))
}

// event: the bytes of one of that kind; what V lacks is 0.
func event(kind int, time int64, v ...int64) string {
	l := make([]int64, len(kinds()[kind].Fields))
	copy(l, v)
	s, _ := wire.Put(wire.Event{Kind: kind, Time: time, V: l})
	return s
}

func text(l []engine.Emit) string {
	told := ""
	for _, one := range l {
		told += fmt.Sprintf("%d%v", one.Query, one.Tuple)
	}
	return told
}

// pushes: Push of an event that is not wrong or late tells that.
func pushes(t *testing.T, g *engine.Engine, bytes, want string) {
	t.Helper()
	if l, e := g.Push(bytes); e != api.OK || text(l) != want {
		t.Errorf("Push(%x) = %s, %v; want %s, OK", bytes, text(l), e, want)
	}
}

// fails: the call tells that error, and nothing has changed.
func fails(t *testing.T, g *engine.Engine, name string, want api.Errno, call func() api.Errno) {
	t.Helper()
	before := state(g, 20)
	if e := call(); e != want {
		t.Errorf("%s = %v; want %v", name, e, want)
	}
	if after := state(g, 20); after != before {
		t.Errorf("%s has changed %s to %s", name, before, after)
	}
}

func pushFails(t *testing.T, g *engine.Engine, bytes string, want api.Errno) {
	t.Helper()
	fails(t, g, fmt.Sprintf("Push(%x)", bytes), want, func() api.Errno {
		l, e := g.Push(bytes)
		if len(l) != 0 {
			t.Errorf("Push(%x) tells %v beside %v", bytes, l, e)
		}
		return e
	})
}

func does(t *testing.T, name string, e api.Errno) {
	t.Helper()
	if e != api.OK {
		t.Errorf("%s = %v; want OK", name, e)
	}
}

// has: these blocks, in this order, and their sum.
func has(t *testing.T, g *engine.Engine, sizes ...int) {
	t.Helper()
	sum := 0
	for _, n := range sizes {
		sum += n
	}
	if !slices.Equal(g.Sizes(), sizes) || g.Charged() != sum {
		t.Errorf("Sizes() = %v, Charged() = %d; want %v, %d", g.Sizes(), g.Charged(), sizes, sum)
	}
}

// ledger: a report with these times, as intervals.
func ledger(state, neg [][2]int64, shed, runs int, exact bool) engine.Report {
	return engine.Report{State: spans.Spans{L: state}, Neg: spans.Spans{L: neg}, Shed: shed, Runs: runs, Exact: exact}
}

func reports(t *testing.T, g *engine.Engine, id int, want engine.Report) {
	t.Helper()
	if r, ok := g.Ledger(id); fmt.Sprint(r) != fmt.Sprint(want) || !ok {
		t.Errorf("Ledger(%d) = %v, %v; want %v, true", id, r, ok, want)
	}
}

func isExact(t *testing.T, g *engine.Engine, id int, want bool) {
	t.Helper()
	if r, _ := g.Ledger(id); r.Exact != want {
		t.Errorf("now %d: Ledger(%d).Exact = %v; want %v", g.Now(), id, r.Exact, want)
	}
}

// P21.1: the bounds of each field, and which error is told first.
func TestNew(t *testing.T) {
	many := make([]schema.Kind, api.MaxKinds+1)
	for _, c := range []struct {
		name string
		turn func(*engine.Config)
		want api.Errno
	}{
		{"all right", func(c *engine.Config) {}, api.OK},
		{"Capacity 0", func(c *engine.Config) { c.Capacity = 0 }, api.OK},
		{"Capacity 1", func(c *engine.Config) { c.Capacity = 1 }, api.OK},
		{"Capacity 2^24 - 1", func(c *engine.Config) { c.Capacity = greatest - 1 }, api.OK},
		{"Capacity 2^24 + 1", func(c *engine.Config) { c.Capacity = greatest + 1 }, api.ErrArg},
		{"Capacity -1", func(c *engine.Config) { c.Capacity = -1 }, api.ErrArg},
		{"Capacity least", func(c *engine.Config) { c.Capacity = first }, api.ErrArg},
		{"Capacity most", func(c *engine.Config) { c.Capacity = last }, api.ErrArg},
		{"Size 0", func(c *engine.Config) { c.Size = 0 }, api.OK},
		{"Size -1", func(c *engine.Config) { c.Size = -1 }, api.ErrArg},
		{"Size MaxTokens + 1", func(c *engine.Config) { c.Size++ }, api.ErrArg},
		{"Every 0", func(c *engine.Config) { c.Every = 0 }, api.ErrArg},
		{"Every -1", func(c *engine.Config) { c.Every = -1 }, api.ErrArg},
		{"Every 2^62", func(c *engine.Config) { c.Every = maxEvery }, api.OK},
		{"Every 2^62 + 1", func(c *engine.Config) { c.Every = maxEvery + 1 }, api.ErrArg},
		{"no kinds", func(c *engine.Config) { c.Schema = nil }, api.ErrLimit},
		{"no kinds, and no Every", func(c *engine.Config) { c.Schema, c.Every = nil, 0 }, api.ErrLimit},
		{"kinds above MaxKinds, and Capacity -1", func(c *engine.Config) { c.Schema, c.Capacity = many, -1 }, api.ErrLimit},
		{"a kind without a name, and Size -1", func(c *engine.Config) { c.Schema[4].Name, c.Size = "", -1 }, api.ErrName},
		{"a field that is twice", func(c *engine.Config) { c.Schema[0].Fields[1] = "k" }, api.ErrName},
	} {
		config := config()
		c.turn(&config)
		if g, e := engine.New(config); e != c.want || (g == nil) != (c.want != api.OK) {
			t.Errorf("%s: New = %v; want %v", c.name, e, c.want)
		}
	}
}

// P21.1, P21.7: what an engine is at first.
func TestAtFirst(t *testing.T) {
	for _, capacity := range []int{0, 1, 1000, greatest} {
		g := within(t, capacity)
		has(t, g)
		if in, refused := g.Input(); g.Budget() != capacity || g.Now() != first || g.Next() != 0 || len(in.L) != 0 || refused != 0 {
			t.Errorf("Capacity %d: %s", capacity, state(g, 1))
		}
		for _, id := range []int{0, 1, -1, first, last} {
			if r, ok := g.Ledger(id); ok || fmt.Sprint(r) != fmt.Sprint(engine.Report{}) {
				t.Errorf("Ledger(%d) of no queries = %v, %v", id, r, ok)
			}
		}
	}
}

// P21.1: with a Capacity of 0 nothing fits, and what comes is counted as ever.
func TestCapacityZero(t *testing.T) {
	g := within(t, 0)
	refuses(t, g, "D a WITHIN 1", 12, api.ErrBudget)
	pushes(t, g, event(D, 3), "")
	does(t, "SetBudget(0)", g.SetBudget(0))
	fails(t, g, "SetBudget(1)", api.ErrArg, func() api.Errno { return g.SetBudget(1) })
	if g.Next() != 1 || g.Now() != 3 {
		t.Error(g.Next(), g.Now())
	}
}

// P21.2: the errors of each layer, where they are, and which is told first.
func TestRegisterErrors(t *testing.T) {
	g := within(t, 16)
	long := padded("D a WITHIN 1", api.MaxBlock+1)
	for _, c := range []struct {
		text string
		at   int
		want api.Errno
	}{
		{"", 0, api.ErrParse}, {"D", 1, api.ErrParse}, {"D a", 3, api.ErrParse}, {"D a WITHIN", 10, api.ErrParse}, {"D a WITHIN x", 11, api.ErrParse},
		{"D a $", 4, api.ErrLex}, {"D a WITHIN 1 BY", 15, api.ErrParse}, {"D a WITHIN 1000000001", 11, api.ErrParse},
		{padded("D a WITHIN 1", api.MaxText+1), api.MaxText, api.ErrLimit},
		{strings.Repeat("D a;", 13), 48, api.ErrLimit},
		{"F a WITHIN 1", 12, api.ErrName}, {"D a WITHIN 1 BY k", 17, api.ErrName}, {"A a[a.z] WITHIN 1", 17, api.ErrType}, {"A a[b.x < 1] WITHIN 1", 21, api.ErrName},
		{"!D a WITHIN 1", 13, api.ErrArg}, {"D a ; !D b WITHIN 1", 19, api.ErrArg}, {"D a{1,4} ; D b{1,4} ; D c{1,3} WITHIN 1", 39, api.ErrLimit},
		// Of two that are wrong the one that is named first.
		{padded("F a WITHIN 1", api.MaxBlock+1), api.MaxBlock + 1, api.ErrName}, {padded("D a", api.MaxBlock+1), api.MaxBlock + 1, api.ErrParse},
		{padded("D a", api.MaxText+1), api.MaxText, api.ErrLimit},
		{long, api.MaxBlock + 1, api.ErrLimit}, {padded("D a WITHIN 1", 17), 17, api.ErrBudget},
	} {
		refuses(t, g, c.text, c.at, c.want)
	}
	g = within(t, 16*api.MaxQueries)
	for n := range api.MaxQueries {
		registers(t, g, "D a WITHIN 1", n+1)
	}
	refuses(t, g, "D a WITHIN 1", 12, api.ErrFull)
	refuses(t, g, long, api.MaxBlock+1, api.ErrLimit)
	refuses(t, g, "F a WITHIN 1", 12, api.ErrName)
	refuses(t, g, "D a WITHIN", 10, api.ErrParse)
	does(t, "Unregister(3)", g.Unregister(3))
	registers(t, g, "D a WITHIN 2", api.MaxQueries+1)
	refuses(t, g, "D a WITHIN 1", 12, api.ErrFull)
}

// P21.2: a query of just MaxBlock bytes, and one of more.
func TestRegisterBlock(t *testing.T) {
	g := within(t, 2*api.MaxBlock)
	registers(t, g, padded("D a WITHIN 1", api.MaxBlock), 1)
	has(t, g, api.MaxBlock)
	refuses(t, g, padded("D a WITHIN 1", api.MaxBlock+1), api.MaxBlock+1, api.ErrLimit)
	registers(t, g, padded("D a WITHIN 1", api.MaxBlock-511), 2)
	has(t, g, api.MaxBlock, api.MaxBlock)
}

// P21.2: a query that just fits the Budget, and one that a byte more makes too large; the Budget counts, not the Capacity.
func TestRegisterBudget(t *testing.T) {
	g := within(t, 48, padded("D a WITHIN 1", 16))
	refuses(t, g, padded("D a WITHIN 1", 33), 33, api.ErrBudget)
	registers(t, g, padded("D a WITHIN 1", 32), 2)
	has(t, g, 16, 32)
	refuses(t, g, "D a WITHIN 1", 12, api.ErrBudget)
	does(t, "Unregister(2)", g.Unregister(2))
	does(t, "SetBudget(47)", g.SetBudget(47))
	refuses(t, g, padded("D a WITHIN 1", 17), 17, api.ErrBudget)
	registers(t, g, padded("D a WITHIN 1", 16), 3)
	refuses(t, g, "D a WITHIN 1", 12, api.ErrBudget)
	does(t, "SetBudget(48)", g.SetBudget(48))
	registers(t, g, "D a WITHIN 1", 4)
	has(t, g, 16, 16, 16)
}

// P21.2: runs are shed for a query, the least one first, and none more than must be; each that is shed is noted where it is of.
func TestRegisterSheds(t *testing.T) {
	g := within(t, 192, "D a ; D b ; A c WITHIN 50", "D a ; A c WITHIN 50")
	pushes(t, g, event(D, 5), "")
	has(t, g, 32, 32, 16, 16, 16)
	pushes(t, g, event(D, 6), "")
	// Runs 1 (of 0), 2 (of 0), 3 (of 0 and 1), 4 (of 1), 5 (of 1), and the two events.
	has(t, g, 32, 32, 16, 16, 16, 16, 16, 16, 16)
	registers(t, g, padded("E a WITHIN 1", 16), 3)
	has(t, g, 32, 32, 16, 16, 16, 16, 16, 16, 16, 16)
	reports(t, g, 1, ledger(nil, nil, 0, 3, true))
	// Now all is charged. Run 1 goes, not 4, which has come as far; what it held is held by others yet.
	registers(t, g, padded("E a WITHIN 1", 16), 4)
	reports(t, g, 1, ledger([][2]int64{{5, 5}}, nil, 1, 2, false))
	reports(t, g, 2, ledger(nil, nil, 0, 2, true))
	has(t, g, 32, 32, 16, 16, 16, 16, 16, 16, 16, 16)
	// One run is too few: 4 goes, and 2 of the other query.
	registers(t, g, padded("E a WITHIN 1", 17), 5)
	reports(t, g, 1, ledger([][2]int64{{5, 5}, {6, 6}}, nil, 2, 1, false))
	reports(t, g, 2, ledger([][2]int64{{5, 5}}, nil, 1, 1, false))
	has(t, g, 32, 32, 16, 16, 32, 16, 16, 16, 16)
	// What is not registered sheds nothing.
	refuses(t, g, padded("D a WITHIN 1", 65), 65, api.ErrBudget)
	pushes(t, g, event(A, 7), "1[0 1 2]2[1 2]")
}

// P21.2: all runs are shed, if they must be, and a query that needs all that is left is there.
func TestRegisterShedsAll(t *testing.T) {
	g := within(t, 32+128, "D a ; A b WITHIN 9")
	for n := range 4 {
		pushes(t, g, event(D, int64(n)), "")
	}
	has(t, g, 32, 16, 16, 16, 16, 16, 16, 16, 16)
	registers(t, g, padded("E a WITHIN 1", 128), 2)
	has(t, g, 32, 128)
	reports(t, g, 1, ledger([][2]int64{{0, 0}, {1, 1}, {2, 2}, {3, 3}}, nil, 4, 0, false))
	reports(t, g, 2, ledger(nil, nil, 0, 0, true))
}

// P21.2: ids rise, also behind an Unregister of the last query; those that are no more are of no query.
func TestIds(t *testing.T) {
	g := within(t, 1000, "D a WITHIN 1", "D a WITHIN 1")
	for _, id := range []int{0, 3, -1, first, last} {
		fails(t, g, "Unregister", api.ErrNone, func() api.Errno { return g.Unregister(id) })
	}
	does(t, "Unregister(2)", g.Unregister(2))
	fails(t, g, "Unregister(2)", api.ErrNone, func() api.Errno { return g.Unregister(2) })
	registers(t, g, "D a WITHIN 1", 3)
	does(t, "Unregister(1)", g.Unregister(1))
	does(t, "Unregister(3)", g.Unregister(3))
	has(t, g)
	refuses(t, g, "D a", 3, api.ErrParse)
	registers(t, g, "D a WITHIN 1", 4)
	registers(t, g, "D a WITHIN 1", 5)
	pushes(t, g, event(D, 0), "4[0]5[0]")
	for id := range 7 {
		if _, ok := g.Ledger(id); ok != (id == 4 || id == 5) {
			t.Errorf("Ledger(%d): %v", id, ok)
		}
	}
}

// P21.2: with a query go its runs, and what they alone held; nothing of it is shed any more, and others stay as they were.
func TestUnregister(t *testing.T) {
	g := within(t, 1000, "A a ; B b ; D d WITHIN 9", "A a ; C c WITHIN 9", "B a ; C c WITHIN 9")
	pushes(t, g, event(A, 1), "")
	pushes(t, g, event(B, 2), "")
	has(t, g, 32, 32, 32, 16, 16, 16, 16, 32, 32)
	does(t, "Unregister(1)", g.Unregister(1))
	has(t, g, 32, 32, 16, 16, 32, 32)
	does(t, "Unregister(3)", g.Unregister(3))
	has(t, g, 32, 16, 32)
	reports(t, g, 2, ledger(nil, nil, 0, 1, true))
	pushes(t, g, event(C, 3), "2[0 2]")
	does(t, "Unregister(2)", g.Unregister(2))
	has(t, g)
	// Rank, too, knows none of them: what is shed for this is a run of now.
	does(t, "SetBudget(80)", g.SetBudget(80))
	registers(t, g, "A a ; C c WITHIN 9", 4)
	pushes(t, g, event(A, 4), "")
	pushes(t, g, event(A, 5), "")
	has(t, g, 32, 16, 32)
	reports(t, g, 4, ledger([][2]int64{{4, 4}}, nil, 1, 1, false))
}

// P21.2: a query means only what comes once it is registered.
func TestRegisterLate(t *testing.T) {
	g := within(t, 1000, "A a ; B b WITHIN 9")
	pushes(t, g, event(A, 1), "")
	registers(t, g, "A a ; B b WITHIN 9", 2)
	pushes(t, g, event(A, 2), "")
	pushes(t, g, event(B, 3), "1[0 2]1[1 2]2[1 2]")
}

// round: the class of n bytes by the words of chapter 1, written out here so that the engine is held against the document.
func round(n int) int {
	for _, c := range []int{16, 32, 64, 128, 256, 512} {
		if n <= c {
			return c
		}
	}
	return 1024
}

// P21.3: what a run's block has: two bytes, and four of each of its Tuple.
func TestRunSizes(t *testing.T) {
	query := ""
	for n := range api.MaxSteps - 1 {
		query += fmt.Sprintf("A a%d[a%d.x == %d] ; ", n, n, n)
	}
	query += "D d WITHIN 0"
	g := within(t, greatest, query)
	want := []int{round(len(query))}
	told := "1["
	for n := range api.MaxSteps - 1 {
		pushes(t, g, event(A, 0, 0, int64(n)), "")
		want = append(want, round(2+4*(n+1)))
		has(t, g, append(slices.Clone(want), slices.Repeat([]int{32}, n+1)...)...)
		told += fmt.Sprint(n, " ")
	}
	pushes(t, g, event(D, 0), told+"11]")
}
