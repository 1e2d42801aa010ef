package keys_test

import (
	"slices"
	"testing"

	"entrepot/keys"
)

// R4, R5
func TestRising(t *testing.T) {
	for range 50 {
		m := map[int]string{7: "g", -3: "a", 0: "c", 1 << 40: "z", 2: "e"}
		if l := slices.Collect(keys.Rising(m)); !slices.Equal(l, []int{-3, 0, 2, 7, 1 << 40}) {
			t.Fatal(l)
		}
	}
	names := map[string]bool{"b": true, "": false, "ab": true, "-": true, "a": false}
	if l := slices.Collect(keys.Rising(names)); !slices.Equal(l, []string{"", "-", "a", "ab", "b"}) {
		t.Error(l)
	}
	for k := range keys.Rising(map[int]int(nil)) {
		t.Error(k)
	}
}

// R5: it begins anew, may be stopped, and looks at the map when it is ranged over.
func TestRisingBeginsAnew(t *testing.T) {
	m := map[int]int{2: 0, 1: 0}
	all := keys.Rising(m)
	m[3] = 0
	delete(m, 1)
	for range 2 {
		if l := slices.Collect(all); !slices.Equal(l, []int{2, 3}) {
			t.Error(l)
		}
	}
	for k := range all {
		if k != 2 {
			t.Error(k)
		}
		break
	}
}
