package audit

import (
	"maps"

	"entrepot/api"
	"entrepot/node"
	"entrepot/world"
)

func Quiet(w *world.World) bool {
	return w != nil && whole(w) && each(w, quiet)
}

func quiet(n *node.Node) bool {
	return n.Open() == 0 && n.Desk().Open() == 0 && eachOrder(n, settled)
}

// settled is whether a saga waits for no region.
func settled(s api.Saga, _ api.Parcel, _ bool) bool {
	return len(s.Pending) == 0
}

// place is a region that holds something for an order.
type place struct {
	region int
	order  int
}

// Held looks at quiet worlds alone: else something may be on its way that regions did, and sagas don't know.
func Held(w *world.World) bool {
	return !Quiet(w) || maps.EqualFunc(holds(w), said(w), same)
}

// holds is what regions hold, at each place where there is something.
func holds(w *world.World) map[place]amounts {
	l := map[place]amounts{}
	for region, n := range nodes(w) {
		for h := range n.Region().Orders() {
			l[place{region: region, order: h.Order}] = together(h.Held, h.Picked, h.Shipped)
		}
	}
	return l
}

// said is what sagas say that regions hold, likewise.
func said(w *world.World) map[place]amounts {
	l := map[place]amounts{}
	for _, n := range nodes(w) {
		for s := range n.Desk().Sagas() {
			for region, got := range s.Got {
				if len(got) > 0 {
					l[place{region: region, order: s.Order}] = together(got)
				}
			}
		}
	}
	return l
}
