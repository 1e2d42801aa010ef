package backoff

import (
	"cmp"
	"iter"
	"slices"
)

// Timers has of each key its time.
type Timers struct {
	times map[int]int
}

// timer is one key with its time.
type timer struct {
	key, at int
}

func New() *Timers {
	return &Timers{times: map[int]int{}}
}

// all is nil of nil Timers: such a map may be looked at, and deleted from.
func (t *Timers) all() map[int]int {
	if t == nil {
		return nil
	}
	return t.times
}

// order is below 0 if a gets due ahead of b; no two keys are equal in it.
func order(a, b timer) int {
	return cmp.Or(cmp.Compare(a.at, b.at), cmp.Compare(a.key, b.key))
}

func (t *Timers) sorted() []timer {
	var l []timer
	for key, at := range t.all() {
		l = append(l, timer{key, at})
	}
	slices.SortFunc(l, order)
	return l
}

// earliest is looked for in one pass: who pops all would else put all in order for each.
func (t *Timers) earliest() (timer, bool) {
	var first timer
	found := false
	for key, at := range t.all() {
		x := timer{key, at}
		if !found || order(x, first) < 0 {
			first, found = x, true
		}
	}
	return first, found
}

func (t *Timers) Set(key, at int) {
	if t != nil {
		t.times[key] = at
	}
}

func (t *Timers) Drop(key int) bool {
	_, has := t.all()[key]
	delete(t.all(), key)
	return has
}

func (t *Timers) At(key int) (int, bool) {
	at, has := t.all()[key]
	return at, has
}

func (t *Timers) Due(now int) []int {
	var l []int
	for key, at := range t.All() {
		if at > now {
			break
		}
		l = append(l, key)
	}
	return l
}

func (t *Timers) Pop(now int) (int, bool) {
	first, found := t.earliest()
	if !found || first.at > now {
		return 0, false
	}
	delete(t.times, first.key)
	return first.key, true
}

func (t *Timers) First() (int, bool) {
	first, found := t.earliest()
	return first.at, found
}

func (t *Timers) Len() int {
	return len(t.all())
}

func (t *Timers) All() iter.Seq2[int, int] {
	return func(yield func(int, int) bool) {
		for _, x := range t.sorted() {
			if !yield(x.key, x.at) {
				return
			}
		}
	}
}
