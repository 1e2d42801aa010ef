// Package among is of a region among some: which ones there are, and what is told all of them.
package among

import "entrepot/api"

// Regions are some, of which one is looked from.
type Regions struct {
	Me   int
	Many int
}

// Of refuses what may not be: there are 1 to MaxRegions of them, and me is one.
func Of(me, many int) (Regions, api.Errno) {
	r := Regions{Me: me, Many: many}
	if many > api.MaxRegions || !r.Has(me) {
		return Regions{}, api.ErrArg
	}
	return r, api.OK
}

// Has is whether there is such a region.
func (r Regions) Has(region int) bool {
	return region >= 0 && region < r.Many
}

// News is mail to all of them, by rising numbers.
func (r Regions) News() []api.Post {
	var l []api.Post
	for region := range r.Many {
		l = append(l, api.Post{To: region, Mail: api.Mail{Kind: api.MailNews}})
	}
	return l
}
