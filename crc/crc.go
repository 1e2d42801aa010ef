// Package crc is layer 2: CRC-32C and SipHash-2-4. See shared/doc/02-crc.md.
package crc

import "sync"

// turn is what a step adds for a bit that is shifted out.
const turn = 0x82F63B78

func Step(sum uint32, b byte) uint32 {
	sum ^= uint32(b)
	for range 8 {
		out := sum & 1
		sum >>= 1
		if out == 1 {
			sum ^= turn
		}
	}
	return sum
}

// Table has the step of 0 with each byte: a step of any sum is one of these and a shift. It is reckoned when a sum is first asked for, so that a table that is only handed about costs nothing.
type Table struct {
	once  sync.Once
	steps [256]uint32
}

func New() *Table {
	return &Table{}
}

func (t *Table) reckon() {
	for i := range t.steps {
		t.steps[i] = Step(0, byte(i))
	}
}

// ready stands in for a nil Table with one of its own, so that sums are the same there.
func (t *Table) ready() *Table {
	if t == nil {
		t = New()
	}
	t.once.Do(t.reckon)
	return t
}

func (t *Table) Sum(b []byte) uint32 {
	return t.On(0, b)
}

func (t *Table) On(sum uint32, b []byte) uint32 {
	t = t.ready()
	sum = ^sum
	for _, x := range b {
		sum = t.steps[byte(sum)^x] ^ sum>>8
	}
	return ^sum
}
