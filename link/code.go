package link

import (
	"math"

	"entrepot/api"
	"entrepot/cells"
)

// mostNumber is the greatest Seq, and Ack, of a packet.
const mostNumber = 1 << 40

func May(p api.Packet) bool {
	switch {
	case p.Seq < 0, p.Seq > mostNumber,
		p.Ack < 0, p.Ack > mostNumber,
		len(p.Body) > api.MaxBody,
		p.Seq == 0 && len(p.Body) > 0:
		return false
	}
	return true
}

func Encode(p api.Packet) ([]byte, api.Errno) {
	if !May(p) {
		return nil, api.ErrArg
	}
	return cells.New().Num(p.Seq).Num(p.Ack).Text(string(p.Body)).Done()
}

func Decode(b []byte) (api.Packet, api.Errno) {
	k := cells.Take(b)
	p := api.Packet{Seq: k.Num(0, mostNumber), Ack: k.Num(0, mostNumber), Body: fresh(k.Text(api.MaxBody))}
	if k.Done() != api.OK || !May(p) {
		return api.Packet{}, api.ErrCode
	}
	return p, api.OK
}

func (e *End) Pack() []byte {
	if e == nil {
		return nil
	}
	m := cells.New().Num(e.sent).Num(e.mark).Num(len(e.open))
	e.each(func(b *body) { m.Text(b.text).Num(b.tries).Num(b.at) })
	// So few bodies are never longer than a code may be.
	b, _ := m.Done()
	return b
}

func Unpack(b []byte) (*End, api.Errno) {
	k := cells.Take(b)
	e := &End{sent: k.Num(0, math.MaxInt), mark: k.Num(0, math.MaxInt)}
	many := k.Num(0, min(api.MaxBox, e.sent))
	for seq := e.sent - many; seq < e.sent; seq++ {
		e.open = append(e.open, takeBody(k, seq+1))
	}
	if k.Done() != api.OK {
		return nil, api.ErrCode
	}
	return e, api.OK
}

func takeBody(k *cells.Taker, seq int) body {
	return body{seq: seq, text: k.Text(api.MaxBody), tries: k.Num(1, math.MaxInt), at: k.Num(math.MinInt, math.MaxInt)}
}
