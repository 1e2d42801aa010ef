package world

import (
	"cmp"
	"iter"
	"maps"
	"slices"

	"entrepot/api"
)

// name is by what an answer is known.
type name struct {
	client int
	number int
}

// answered keeps the first answer that is not passing; till one comes, the first one.
func (w *World) answered(a api.Answer) {
	if a.Client >= w.clients {
		return
	}
	n := name{client: a.Client, number: a.Number}
	first, is := w.answers[n]
	switch {
	case !is, passing(first) && !passing(a):
		w.answers[n] = a
	case !passing(a) && a != first:
		w.unlike = true
	}
}

// passing is whether the answer may be another one, if it is asked again.
func passing(a api.Answer) bool {
	return a.Code == api.ErrClash || a.Code == api.ErrStale || a.Code == api.ErrFull
}

func (w *World) Answer(client, number int) (api.Answer, bool) {
	if w == nil {
		return api.Answer{}, false
	}
	a, is := w.answers[name{client: client, number: number}]
	return a, is
}

func (w *World) Answers() iter.Seq[api.Answer] {
	return func(yield func(api.Answer) bool) {
		if w == nil {
			return
		}
		for _, a := range slices.SortedFunc(maps.Values(w.answers), byName) {
			if !yield(a) {
				return
			}
		}
	}
}

func byName(a, b api.Answer) int {
	return cmp.Or(cmp.Compare(a.Client, b.Client), cmp.Compare(a.Number, b.Number))
}

func (w *World) Unlike() bool {
	return w != nil && w.unlike
}

func (w *World) Asked() iter.Seq[api.Ask] {
	return func(yield func(api.Ask) bool) {
		if w == nil {
			return
		}
		for _, a := range w.asked {
			a.Items = slices.Clone(a.Items)
			if !yield(a) {
				return
			}
		}
	}
}
