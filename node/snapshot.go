package node

import (
	"bytes"
	"math"
	"slices"

	"entrepot/api"
	"entrepot/cells"
	"entrepot/desk"
	"entrepot/link"
	"entrepot/mail"
	"entrepot/region"
)

// partBytes is how much of a snapshot one entry has, at most.
const partBytes = 60000

// ahead is how many texts of a snapshot come ahead of those of the regions, each of which has two.
const ahead = 3

func (n *Node) Checkpoint() api.Errno {
	if n == nil {
		return api.ErrClosed
	}
	return n.log.Compact(entriesOf(n.snapshot()))
}

// snapshot has of me, which has no end of a link, what a nil one packs: nothing.
func (n *Node) snapshot() []byte {
	head, _ := cells.New().Num(n.clock).Num(n.inputs).Done()
	texts := [][]byte{head, n.desk.Save(), n.region.Save()}
	for other := range n.among.Many {
		texts = append(texts, n.ends[other].Pack(), cells.Join(n.late[other]...))
	}
	return cells.Join(texts...)
}

func entriesOf(snapshot []byte) [][]byte {
	l := cells.Parts(snapshot, partBytes)
	for i, part := range l {
		l[i], _ = cells.New().Num(aPart).Num(len(l) - 1 - i).Text(string(part)).Done()
	}
	return l
}

// partOf answers how many parts come behind one, and its bytes.
func partOf(entry []byte) (int, []byte, bool) {
	t := cells.Take(entry)
	t.Num(aPart, aPart)
	behind, part := t.Num(0, math.MaxInt), t.Text(partBytes)
	return behind, []byte(part), t.Done() == api.OK
}

// catchUp does again what the log says, and is whether it says something. What was sent then is let go: links try again till they are told that it came.
func (n *Node) catchUp() bool {
	var l [][]byte
	for _, entry := range n.log.Entries() {
		l = append(l, entry)
	}
	l, whole := n.loadFirst(l)
	if !whole {
		return false
	}
	for _, entry := range l {
		i, e := n.inputOf(entry)
		if e != api.OK {
			return false
		}
		n.do(i)
	}
	return true
}

// loadFirst answers the entries behind those of a snapshot, if it is whole; where none begins, all.
func (n *Node) loadFirst(l [][]byte) ([][]byte, bool) {
	if len(l) == 0 {
		return nil, true
	}
	behind, _, is := partOf(l[0])
	switch {
	case !is:
		return l, true
	case behind >= len(l):
		return nil, false
	}
	parts, left := l[:behind+1], l[behind+1:]
	var snapshot []byte
	for _, entry := range parts {
		_, part, _ := partOf(entry)
		snapshot = append(snapshot, part...)
	}
	return left, slices.EqualFunc(parts, entriesOf(snapshot), bytes.Equal) && n.load(snapshot)
}

func (n *Node) load(snapshot []byte) bool {
	l, e := cells.Split(snapshot)
	if e != api.OK || len(l) != ahead+2*n.among.Many || !n.loadHead(l[0]) || !n.loadDesk(l[1]) || !n.loadRegion(l[2]) {
		return false
	}
	for other := range n.among.Many {
		end, late := l[ahead+2*other], l[ahead+2*other+1]
		if !n.loadEnd(other, end) || !n.loadLate(other, late) {
			return false
		}
	}
	return true
}

func (n *Node) loadHead(b []byte) bool {
	t := cells.Take(b)
	n.clock, n.inputs = t.Num(0, math.MaxInt), t.Num(0, math.MaxInt)
	return t.Done() == api.OK
}

func (n *Node) loadDesk(b []byte) bool {
	d, e := desk.Load(b, n.among.Me, n.among.Many)
	n.desk = d
	return e == api.OK
}

func (n *Node) loadRegion(b []byte) bool {
	r, e := region.Load(b, n.among.Me, n.among.Many)
	n.region = r
	return e == api.OK
}

func (n *Node) loadEnd(other int, b []byte) bool {
	if other == n.among.Me {
		return len(b) == 0
	}
	end, e := link.Unpack(b)
	n.ends[other] = end
	return e == api.OK
}

func (n *Node) loadLate(other int, b []byte) bool {
	l, e := cells.Split(b)
	if e != api.OK || other == n.among.Me && len(l) > 0 {
		return false
	}
	for _, code := range l {
		if _, e := mail.Decode(code); e != api.OK {
			return false
		}
	}
	n.late[other] = l
	return true
}
