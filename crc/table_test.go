package crc

import "testing"

// Ways: the table is reckoned when it is asked for first, and not again.
func TestTheTableIsReckonedOnce(t *testing.T) {
	table := New()
	if table.steps != [256]uint32{} {
		t.Error("reckoned ahead of being asked for")
	}
	table.Sum([]byte{1})
	for i, step := range table.steps {
		if step != Step(0, byte(i)) {
			t.Errorf("%d: %08X", i, step)
		}
	}
	table.steps[0xFF]++
	table.Sum([]byte{1})
	if table.steps[0xFF] == Step(0, 0xFF) {
		t.Error("reckoned again")
	}
}
