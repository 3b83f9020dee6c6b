package rank

// entry: an id that a Rank has, with its score.
type entry struct {
	id    int
	score int64
}

// order: a heap of entries, and the place of each id in it. It is not a Rank itself, nor embedded in one, since what package heap calls would then be among a Rank's own calls.
type order struct {
	entries []entry
	places  map[int]int
}

// Len: what package heap asks for.
func (o *order) Len() int {
	return len(o.entries)
}

// Less: what package heap asks for.
func (o *order) Less(i, j int) bool {
	a, b := o.entries[i], o.entries[j]
	return Before(a.score, b.score, a.id, b.id)
}

// Swap: what package heap asks for.
func (o *order) Swap(i, j int) {
	o.entries[i], o.entries[j] = o.entries[j], o.entries[i]
	o.places[o.entries[i].id] = i
	o.places[o.entries[j].id] = j
}

// Push: what package heap asks for.
func (o *order) Push(x any) {
	e := x.(entry)
	o.places[e.id] = len(o.entries)
	o.entries = append(o.entries, e)
}

// Pop: what package heap asks for; the one to be dropped stands last by then.
func (o *order) Pop() any {
	last := len(o.entries) - 1
	e := o.entries[last]
	o.entries = o.entries[:last]
	delete(o.places, e.id)
	return e
}
