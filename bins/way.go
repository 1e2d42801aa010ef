package bins

import (
	"cmp"
	"slices"

	"entrepot/api"
)

func (f *Floor) Route(l []api.Place) []api.Place {
	var route []api.Place
	for _, p := range l {
		if _, there := f.find(p.Bin); there {
			route = append(route, p)
		}
	}
	slices.SortStableFunc(route, f.ahead)
	return route
}

// ahead compares two places by the way, which goes through the next zone the other way round.
func (f *Floor) ahead(a, b api.Place) int {
	zone, other := f.bins[a.Bin].Zone, f.bins[b.Bin].Zone
	bins := cmp.Compare(a.Bin, b.Bin)
	if zone%2 == 1 {
		bins = -bins
	}
	return cmp.Or(cmp.Compare(zone, other), bins, cmp.Compare(a.Good, b.Good))
}

func (f *Floor) Way(l []api.Place) int {
	way := 0
	var at api.Bin
	for _, p := range f.Route(l) {
		next := f.bins[p.Bin].Bin
		way += api.ZoneWay*apart(at.Zone, next.Zone) + apart(at.Number, next.Number)
		at = next
	}
	return way
}

func apart(a, b int) int {
	return max(a-b, b-a)
}
