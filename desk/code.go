package desk

import (
	"slices"

	"entrepot/api"
	"entrepot/ask"
	"entrepot/backlog"
	"entrepot/cells"
	"entrepot/ident"
	"entrepot/keys"
	"entrepot/parcel"
	"entrepot/saga"
)

func (d *Desk) Save() []byte {
	if d == nil {
		return nil
	}
	return cells.Join(d.table.Pack(), d.backlog.Pack(), d.parcels.Pack(), d.saveSagas(), d.saveOpen(), d.saveWaits())
}

func (d *Desk) saveSagas() []byte {
	var l [][]byte
	for _, s := range d.rising() {
		b, _ := saga.Encode(s)
		l = append(l, b)
	}
	return cells.Join(l...)
}

func (d *Desk) saveOpen() []byte {
	var l [][]byte
	for _, n := range d.names() {
		r := d.open[n]
		head, _ := n.put(cells.New()).Num(r.from).Done()
		code, _ := ask.Encode(r.ask)
		l = append(l, head, code)
	}
	return cells.Join(l...)
}

// names are those of the requests that are open, rising.
func (d *Desk) names() []name {
	var l []name
	for client, number := range d.table.Open() {
		l = append(l, name{client: client, number: number})
	}
	return l
}

func (n name) put(m *cells.Maker) *cells.Maker {
	return m.Num(n.client).Num(n.number)
}

func (d *Desk) saveWaits() []byte {
	var l [][]byte
	for order := range keys.Rising(d.waits) {
		m := cells.New().Num(order).Num(len(d.waits[order]))
		for _, n := range d.waits[order] {
			n.put(m)
		}
		b, _ := m.Done()
		l = append(l, b)
	}
	return cells.Join(l...)
}

func Load(b []byte, me, regions int) (*Desk, api.Errno) {
	d, e := New(me, regions)
	if e != api.OK {
		return nil, e
	}
	texts, e := cells.Split(b)
	parts := []func([]byte) bool{d.loadTable, d.loadBacklog, d.loadParcels, d.loadSagas, d.loadOpen, d.loadWaits}
	if e != api.OK || len(texts) != len(parts) {
		return nil, api.ErrCode
	}
	for i, load := range parts {
		if !load(texts[i]) {
			return nil, api.ErrCode
		}
	}
	if !d.mayOrders() || !d.mayOpen() || !d.mayWaits() {
		return nil, api.ErrCode
	}
	return d, api.OK
}

func (d *Desk) loadTable(b []byte) bool {
	t, e := ident.Unpack(b)
	d.table = t
	return e == api.OK
}

func (d *Desk) loadBacklog(b []byte) bool {
	l, e := backlog.Unpack(b)
	d.backlog = l
	return e == api.OK
}

func (d *Desk) loadParcels(b []byte) bool {
	p, e := parcel.Unpack(b)
	d.parcels = p
	return e == api.OK
}

func (d *Desk) loadSagas(b []byte) bool {
	l, e := cells.Split(b)
	if e != api.OK || len(l) > api.MaxSagas {
		return false
	}
	last := 0
	for _, code := range l {
		s, e := saga.Decode(code)
		if e != api.OK || s.Order <= last || s.First != d.among.Me || s.Regions != d.among.Many {
			return false
		}
		d.sagas[s.Order] = s
		last = s.Order
	}
	return true
}

// loadOpen takes those that rise just as the ones in the table do.
func (d *Desk) loadOpen(b []byte) bool {
	l, e := cells.Split(b)
	if e != api.OK || len(l)%2 != 0 {
		return false
	}
	var names []name
	for pair := range slices.Chunk(l, 2) {
		head := cells.Take(pair[0])
		n := takeName(head)
		from := head.Num(0, d.among.Many-1)
		a, e := ask.Decode(pair[1])
		if head.Done() != api.OK || e != api.OK || nameOf(a) != n {
			return false
		}
		d.open[n] = request{ask: a, from: from}
		names = append(names, n)
	}
	return slices.Equal(names, d.names())
}

func takeName(t *cells.Taker) name {
	client := t.Num(0, api.MaxClients-1)
	return name{client: client, number: t.Num(1, api.MaxNumber)}
}

func (d *Desk) loadWaits(b []byte) bool {
	l, e := cells.Split(b)
	if e != api.OK {
		return false
	}
	last := 0
	for _, text := range l {
		t := cells.Take(text)
		order := t.Num(last+1, api.MaxOrder)
		for range t.Num(1, api.MaxClients*api.MaxOpen) {
			d.waits[order] = append(d.waits[order], takeName(t))
		}
		if t.Done() != api.OK {
			return false
		}
		last = order
	}
	return true
}

// mayOrders is whether the parcels, and what is in the backlog, are of orders that there are.
func (d *Desk) mayOrders() bool {
	for p := range d.parcels.All() {
		if s, there := d.sagas[p.Order]; !there || !slices.Equal(s.Want, p.Want) {
			return false
		}
	}
	for order := range d.backlog.All() {
		if _, there := d.sagas[order]; !there {
			return false
		}
	}
	return d.parcels.Len() == len(d.sagas)
}

// mayOpen asks the table for bodies alone that it knows: nothing becomes of that.
func (d *Desk) mayOpen() bool {
	for n, r := range d.open {
		verdict, _ := d.table.Ask(n.client, n.number, ask.Body(r.ask))
		if verdict != api.VerdictOpen || ask.Home(n.client, d.among.Many) != d.among.Me {
			return false
		}
	}
	return true
}

// mayWaits is whether each request waits for its order, once. There are no others, if as many wait as should.
func (d *Desk) mayWaits() bool {
	left := 0
	for order, l := range d.waits {
		if _, there := d.sagas[order]; !there {
			return false
		}
		left += len(l)
	}
	for n, r := range d.open {
		order := orderOf(r.ask)
		if order == 0 {
			continue
		}
		if !slices.Contains(d.waits[order], n) {
			return false
		}
		left--
	}
	return left == 0
}
