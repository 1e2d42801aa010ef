package node

import (
	"entrepot/api"
	"entrepot/ask"
	"entrepot/cells"
	"entrepot/link"
)

// What an entry of the log is, by its first number.
const (
	aTick = 1 + iota
	aRequest
	aPacket
	aPart // of a snapshot
)

// input is one thing that a node is told: a packet is from a region. A request, or a packet, is what its bytes say.
type input struct {
	kind    int
	from    int
	bytes   []byte
	request api.Ask
	packet  api.Packet
}

func requestOf(b []byte) (input, api.Errno) {
	a, e := ask.Decode(b)
	return input{kind: aRequest, bytes: b, request: a}, e
}

func (n *Node) packetOf(from int, b []byte) (input, api.Errno) {
	if n.ends[from] == nil {
		return input{}, api.ErrArg
	}
	p, e := link.Decode(b)
	return input{kind: aPacket, from: from, bytes: b, packet: p}, e
}

func (i input) code() []byte {
	// What a node is told is never longer than a code may be.
	b, _ := cells.New().Num(i.kind).Num(i.from).Text(string(i.bytes)).Done()
	return b
}

// inputOf is of an entry of the log, which has nothing that a node would have refused.
func (n *Node) inputOf(entry []byte) (input, api.Errno) {
	t := cells.Take(entry)
	kind, from, b := t.Num(aTick, aPacket), t.Num(0, api.MaxRegions-1), []byte(t.Text(api.MaxFrame))
	switch {
	case t.Done() != api.OK:
		return input{}, api.ErrCode
	case kind == aPacket:
		return n.packetOf(from, b)
	case kind == aRequest && from == 0:
		return requestOf(b)
	case kind == aTick && from == 0 && len(b) == 0:
		return input{kind: aTick}, api.OK
	}
	return input{}, api.ErrCode
}

func (n *Node) Tick() ([]api.Sent, api.Errno) {
	if n == nil {
		return nil, api.ErrClosed
	}
	return n.told(input{kind: aTick})
}

func (n *Node) Ask(b []byte) ([]api.Sent, api.Errno) {
	if n == nil {
		return nil, api.ErrClosed
	}
	i, e := requestOf(b)
	switch {
	case e != api.OK:
		return nil, e
	case n.Late() > api.MaxLate:
		return nil, api.ErrFull
	}
	return n.told(i)
}

func (n *Node) On(from int, b []byte) ([]api.Sent, api.Errno) {
	if n == nil {
		return nil, api.ErrClosed
	}
	i, e := n.packetOf(from, b)
	if e != api.OK {
		return nil, e
	}
	return n.told(i)
}

// told has nothing come of an input ahead of its being sure.
func (n *Node) told(i input) ([]api.Sent, api.Errno) {
	if e := n.keep(i.code()); e != api.OK {
		return nil, e
	}
	return n.do(i), api.OK
}

// keep leaves it to the log to say why there is no room, if the checkpoint made none.
func (n *Node) keep(entry []byte) api.Errno {
	_, e := n.log.Append(entry)
	if e == api.ErrFull {
		n.Checkpoint()
		_, e = n.log.Append(entry)
	}
	if e != api.OK {
		return e
	}
	return n.log.Sync()
}
