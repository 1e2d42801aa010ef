package wal

import (
	"bytes"

	"entrepot/api"
	"entrepot/sector"
)

// Sectors ahead of the halves, and how many a device for a log has at least.
const (
	heads        = 2
	leastSectors = 4
)

// Where in a copy of a head its half stands, behind the generation.
const (
	copyBytes = api.SectorBytes / 2
	halfAt    = 8
)

// head tells in which half the entries of a generation are.
type head struct {
	generation int
	half       int
}

func (h head) next() head {
	return head{h.generation + 1, 1 - h.half}
}

func (h head) sector() int {
	return h.generation & 1
}

// bytes has the head twice, so that one that was torn is told from a whole one.
func (h head) bytes() []byte {
	b := make([]byte, copyBytes, api.SectorBytes)
	for i := range halfAt {
		b[i] = byte(h.generation >> (8 * (halfAt - 1 - i)))
	}
	b[halfAt] = byte(h.half)
	return append(b, b...)
}

func readHead(b []byte) (head, bool) {
	h := head{half: int(b[halfAt])}
	for _, x := range b[:halfAt] {
		h.generation = h.generation<<8 | int(x)
	}
	if h.half > 1 || !bytes.Equal(b, h.bytes()) {
		return head{}, false
	}
	return h, true
}

func rightHead(d *sector.Device) (head, api.Errno) {
	right := head{generation: 0, half: 1}
	for i := range heads {
		b, e := d.Read(i)
		if e != api.OK {
			return head{}, e
		}
		// A generation of 0, and one above an int (it is below 0 here), is none: neither is above that without a head.
		if h, ok := readHead(b); ok && h.sector() == i && h.generation > right.generation {
			right = h
		}
	}
	return right, api.OK
}

// stored answers the stream of the head's half. Where no head was found the log is empty, whatever stands in the half.
func (h head) stored(d *sector.Device) ([]byte, api.Errno) {
	if h.generation == 0 {
		return nil, api.OK
	}
	first, end := halfOf(d, h.half)
	return gather(first, end, d.Read)
}

// halfOf answers the first sector of a half, and the one behind its last.
func halfOf(d *sector.Device, half int) (first, end int) {
	sectors := (d.Len() - heads) / 2
	first = heads + half*sectors
	return first, first + sectors
}
