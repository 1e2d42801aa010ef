package lists_test

import (
	"slices"
	"testing"

	"entrepot/api"
	"entrepot/lists"
)

func TestOf(t *testing.T) {
	if l := lists.Of(""); len(l) != 0 {
		t.Error(l)
	}
	if l := lists.Of("b 3, a-1 -2, b 0"); !slices.Equal(l, []api.Item{{Good: "b", N: 3}, {Good: "a-1", N: -2}, {Good: "b"}}) {
		t.Error(l)
	}
	for _, s := range []string{"a", "a 1,b 2", "a one", "a 1, "} {
		func() {
			defer func() {
				if recover() == nil {
					t.Errorf("%q is a list", s)
				}
			}()
			lists.Of(s)
		}()
	}
}

func TestMany(t *testing.T) {
	if l := lists.Many(9, 2, 5); !slices.Equal(l, []api.Item{{Good: "g109", N: 5}, {Good: "g110", N: 5}}) {
		t.Error(l)
	}
	if l := lists.Many(0, 0, 5); len(l) != 0 {
		t.Error(l)
	}
}
