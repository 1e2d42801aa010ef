package bins

import (
	"entrepot/api"
	"entrepot/cells"
	"entrepot/items"
)

func (f *Floor) Pack() []byte {
	if f == nil {
		return nil
	}
	m := cells.New().Num(len(f.bins))
	for _, b := range f.all().Rising() {
		items.Put(m.Num(b.Number).Num(b.Zone).Num(b.Room), b.in)
	}
	// So few bins are never longer than a code may be.
	code, _ := m.Done()
	return code
}

func Unpack(b []byte) (*Floor, api.Errno) {
	f, t := &Floor{bins: map[int]bin{}}, cells.Take(b)
	last := 0
	for range t.Num(1, api.MaxBins) {
		x := take(t, last+1)
		if x.left() < 0 {
			return nil, api.ErrCode
		}
		f.keep(x)
		last = x.Number
	}
	if t.Done() != api.OK {
		return nil, api.ErrCode
	}
	return f, api.OK
}

// take takes one whose number is at least least. What it answers of a taker that comes to be at fault may be anything.
func take(t *cells.Taker, least int) bin {
	var b bin
	b.Number, b.Zone, b.Room = t.Num(least, api.MaxBin), t.Num(0, api.MaxZone), t.Num(1, api.MaxCount)
	b.in = items.Take(t)
	return b
}
