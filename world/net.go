package world

import (
	"slices"

	"entrepot/api"
	"entrepot/node"
)

// letter is a packet on its way.
type letter struct {
	from   int
	to     int
	packet []byte
}

// does has a node do something, if it is there. What it sends comes to clients at once, and is on its way to regions.
func (w *World) does(region int, do func(*node.Node) ([]api.Sent, api.Errno)) api.Errno {
	n := w.Node(region)
	if n == nil {
		return api.ErrNone
	}
	l, e := do(n)
	for _, s := range l {
		switch {
		case s.Client:
			w.answered(s.Answer)
		case len(w.way) < api.MaxWay:
			w.way = append(w.way, letter{from: region, to: s.To, packet: s.Packet})
		}
	}
	return e
}

// at does something with the letter at the place n, which goes round.
func (w *World) at(n int, do func(place int) api.Errno) api.Errno {
	many := len(w.way)
	if many == 0 {
		return api.ErrNone
	}
	return do((n%many + many) % many)
}

func (w *World) lose(place int) api.Errno {
	w.way = slices.Delete(w.way, place, place+1)
	return api.OK
}

// deliver takes the letter away first: what comes of it has its room.
func (w *World) deliver(place int) api.Errno {
	l := w.way[place]
	w.lose(place)
	w.does(l.to, func(n *node.Node) ([]api.Sent, api.Errno) { return n.On(l.from, l.packet) })
	return api.OK
}

func (w *World) again(place int) api.Errno {
	if len(w.way) >= api.MaxWay {
		return api.ErrFull
	}
	w.way = append(w.way, w.way[place])
	return api.OK
}

func (w *World) round() {
	for region := range w.sites {
		w.does(region, (*node.Node).Tick)
	}
	for range api.MaxRound {
		if len(w.way) == 0 {
			return
		}
		w.deliver(0)
	}
}
