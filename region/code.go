package region

import (
	"entrepot/api"
	"entrepot/cells"
	"entrepot/hold"
	"entrepot/items"
	"entrepot/move"
)

func (r *Region) Save() []byte {
	if r == nil {
		return nil
	}
	texts := [][]byte{r.shelf.Pack(), r.moves.Pack()}
	for _, l := range r.stuck {
		b, _ := items.Encode(l)
		texts = append(texts, b)
	}
	return cells.Join(texts...)
}

func Load(b []byte, me, regions int) (*Region, api.Errno) {
	r, e := New(me, regions)
	if e != api.OK {
		return nil, e
	}
	texts, e := cells.Split(b)
	if e != api.OK || len(texts) < 2 || !r.loadShelf(texts[0]) || !r.loadMoves(texts[1]) || !r.loadStuck(texts[2:]) {
		return nil, api.ErrCode
	}
	return r, api.OK
}

func (r *Region) loadShelf(b []byte) bool {
	s, e := hold.Unpack(b)
	r.shelf = s
	return e == api.OK
}

func (r *Region) loadMoves(b []byte) bool {
	m, e := move.Unpack(b)
	r.moves = m
	for w := range m.All() {
		if w.From != r.among.Me {
			return false
		}
	}
	return e == api.OK
}

func (r *Region) loadStuck(texts [][]byte) bool {
	for _, b := range texts {
		l, e := items.Decode(b)
		if e != api.OK || len(l) == 0 {
			return false
		}
		r.stuck = append(r.stuck, l)
	}
	return true
}
