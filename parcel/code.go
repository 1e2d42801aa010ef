package parcel

import (
	"entrepot/api"
	"entrepot/cells"
	"entrepot/items"
)

// mostUnpacked is how many parcels a code that is unpacked has, at most.
const mostUnpacked = 4096

func (p *Parcels) Pack() []byte {
	if p == nil {
		return nil
	}
	m := cells.New().Num(len(p.records))
	for _, r := range p.rising() {
		r.put(m)
	}
	// Where they are too long for a code, this is nothing.
	b, _ := m.Done()
	return b
}

func (r record) put(m *cells.Maker) {
	m.Num(r.Order)
	for _, l := range [][]api.Item{r.Want, r.Shipped, r.Back} {
		items.Put(m, l)
	}
	regions := r.regions()
	m.Num(len(regions))
	for _, region := range regions {
		m.Num(region)
	}
}

// regions are those from which it was shipped, rising.
func (r record) regions() []int {
	var l []int
	for region, shipped := range r.from {
		if shipped {
			l = append(l, region)
		}
	}
	return l
}

func Unpack(b []byte) (*Parcels, api.Errno) {
	if len(b) > api.MaxCode {
		return nil, api.ErrCode
	}
	t := cells.Take(b)
	p := New()
	last := 0
	for range t.Num(0, mostUnpacked) {
		r := take(t, last+1)
		if !r.may() {
			return nil, api.ErrCode
		}
		p.records[r.Order] = r
		last = r.Order
	}
	if t.Done() != api.OK {
		return nil, api.ErrCode
	}
	return p, api.OK
}

// take takes one whose order is at least least. What it answers of a taker that comes to be at fault may be anything.
func take(t *cells.Taker, least int) record {
	var r record
	r.Order = t.Num(least, api.MaxOrder)
	for _, to := range []*[]api.Item{&r.Want, &r.Shipped, &r.Back} {
		*to = items.Take(t)
	}
	next := 0
	for range t.Num(0, api.MaxRegions) {
		region := t.Num(next, api.MaxRegions-1)
		r.from[region] = true
		next = region + 1
	}
	return r
}

// may is whether the lists, each of which may be, may be those of one parcel.
func (r record) may() bool {
	return len(r.Want) > 0 && items.Covers(r.Want, r.Shipped) && items.Covers(r.Shipped, r.Back) && (len(r.Shipped) == 0 || len(r.regions()) > 0)
}
