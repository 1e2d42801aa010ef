package keys_test

import (
	"slices"
	"testing"

	"entrepot/keys"
)

// R4, R5
func TestRising(t *testing.T) {
	for range 50 {
		m := map[int]string{7: "g", -3: "a", 0: "c", 1 << 40: "z", 2: "e"}
		if l := slices.Collect(keys.Rising(m)); !slices.Equal(l, []int{-3, 0, 2, 7, 1 << 40}) {
			t.Fatal(l)
		}
	}
	names := map[string]bool{"b": true, "": false, "ab": true, "-": true, "a": false}
	if l := slices.Collect(keys.Rising(names)); !slices.Equal(l, []string{"", "-", "a", "ab", "b"}) {
		t.Error(l)
	}
	for k := range keys.Rising(map[int]int(nil)) {
		t.Error(k)
	}
}

// R5: it begins anew, may be stopped, and looks at the map when it is ranged over.
func TestRisingBeginsAnew(t *testing.T) {
	m := map[int]int{2: 0, 1: 0}
	all := keys.Rising(m)
	m[3] = 0
	delete(m, 1)
	for range 2 {
		if l := slices.Collect(all); !slices.Equal(l, []int{2, 3}) {
			t.Error(l)
		}
	}
	for k := range all {
		if k != 2 {
			t.Error(k)
		}
		break
	}
}

// R4, R5: a map's keys in order, each with what it has.
func TestMapRising(t *testing.T) {
	m := keys.Map[int, string]{7: "g", -3: "a", 1 << 40: "z"}
	all := m.Rising()
	m[0] = "c"
	delete(m, 1<<40)
	for range 20 {
		var l []string
		last := -4
		for k, v := range all {
			if k <= last || m[k] != v {
				t.Error(k, v)
			}
			l, last = append(l, v), k
		}
		if !slices.Equal(l, []string{"a", "c", "g"}) {
			t.Fatal(l)
		}
	}
	for k, v := range all {
		if k != -3 || v != "a" {
			t.Error(k, v)
		}
		break
	}
	for k := range keys.Map[string, int](nil).Rising() {
		t.Error(k)
	}
}

// R5: who goes over a map may take away what was reached.
func TestMapRisingWhileDeleting(t *testing.T) {
	m := keys.Map[int, int]{1: 10, 2: 20, 3: 30, 4: 40}
	sum := 0
	for k, v := range m.Rising() {
		sum += v
		if k != 3 {
			delete(m, k)
		}
	}
	if sum != 100 || len(m) != 1 || m[3] != 30 {
		t.Error(sum, m)
	}
}
