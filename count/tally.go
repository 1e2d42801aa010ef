package count

import (
	"sync"
	"sync/atomic"

	"entrepot/api"
)

// Tally has marks that many may change at once.
type Tally struct {
	marks [api.Marks]atomic.Int64
	start sync.Once
}

func New() *Tally {
	return &Tally{}
}

// mark is nil where there is no such mark.
func (t *Tally) mark(i int) *atomic.Int64 {
	if t == nil || i < 0 || i >= len(t.marks) {
		return nil
	}
	return &t.marks[i]
}

func (t *Tally) Mark(i, n int) int {
	m := t.mark(i)
	if m == nil {
		return 0
	}
	return int(m.Add(int64(n)))
}

func (t *Tally) Get(i int) int {
	m := t.mark(i)
	if m == nil {
		return 0
	}
	return int(m.Load())
}

func (t *Tally) Most(i, n int) bool {
	return t.change(i, func(have int) (int, bool) { return n, n > have })
}

func (t *Tally) Take(i, n int) bool {
	return t.change(i, func(have int) (int, bool) { return have - n, n >= 0 && have >= n })
}

// change asks to what a mark goes from what it is. Where somebody else changed it in between, what was asked of the old mark does not hold of the new one: it is asked again.
func (t *Tally) change(i int, to func(have int) (int, bool)) bool {
	m := t.mark(i)
	if m == nil {
		return false
	}
	for {
		have := m.Load()
		next, ok := to(int(have))
		if !ok {
			return false
		}
		if m.CompareAndSwap(have, int64(next)) {
			return true
		}
	}
}

func (t *Tally) All() [api.Marks]int {
	var all [api.Marks]int
	for i := range all {
		all[i] = t.Get(i)
	}
	return all
}

func (t *Tally) Start() bool {
	if t == nil {
		return false
	}
	first := false
	t.start.Do(func() { first = true })
	return first
}
