package move_test

import (
	"bytes"
	"slices"
	"testing"

	"entrepot/api"
	"entrepot/cells"
	"entrepot/lists"
	"entrepot/move"
)

const most = api.MaxCount

func list(s string) []api.Item {
	return lists.Of(s)
}

func item(good string, n int) []api.Item {
	return []api.Item{{Good: good, N: n}}
}

func goods(from, many, n int) []api.Item {
	return lists.Many(from, many, n)
}

// under is a move that is on its way.
func under(move, from, to int, l string) api.Way {
	return api.Way{Move: move, From: from, To: to, Items: list(l)}
}

// came is one that came.
func came(move, from, to int, l string) api.Way {
	w := under(move, from, to, l)
	w.Came = true
	return w
}

// code is put down as the chapter tells it, of whatever moves, however long.
func code(l ...api.Way) []byte {
	b := cells.Num(len(l))
	for _, w := range l {
		for _, n := range []int{w.Move, w.From, w.To, len(w.Items)} {
			b = append(b, cells.Num(n)...)
		}
		for _, i := range w.Items {
			b = append(append(b, cells.Num(len(i.Good))...), i.Good...)
			b = append(b, cells.Num(i.N)...)
		}
		if w.Came {
			b = append(b, 1)
		} else {
			b = append(b, 0)
		}
	}
	return b
}

// unpacked is moves that are just these.
func unpacked(t *testing.T, l ...api.Way) *move.Moves {
	t.Helper()
	m, e := move.Unpack(code(l...))
	if e != api.OK || m == nil {
		t.Fatal("Unpack:", l, e)
	}
	return m
}

// many are so many small moves, numbered from first on.
func many(first, n int) []api.Way {
	var l []api.Way
	for i := range n {
		l = append(l, under(first+i, i%8, (i+3)%8, "a 1"))
	}
	return l
}

func same(a, b api.Way) bool {
	return a.Move == b.Move && a.From == b.From && a.To == b.To && slices.Equal(a.Items, b.Items) && a.Came == b.Came
}

// sums is plainly what of moves, which rise, is under way from one region to another.
func sums(l []api.Way, from, to int) []api.Item {
	all := map[string]int{}
	for _, w := range l {
		if w.Came || w.From != from || w.To != to {
			continue
		}
		more := map[string]int{}
		for good, n := range all {
			more[good] = n
		}
		for _, i := range w.Items {
			more[i.Good] += i.N
		}
		over := len(more) > 16
		for _, n := range more {
			over = over || n > 1<<40
		}
		if over {
			break
		}
		all = more
	}
	return listed(all)
}

// listed puts goods in order.
func listed(m map[string]int) []api.Item {
	var l []api.Item
	for good, n := range m {
		l = append(l, api.Item{Good: good, N: n})
	}
	slices.SortFunc(l, func(a, b api.Item) int {
		if a.Good < b.Good {
			return -1
		}
		return 1
	})
	return l
}

// is looks whether moves are just these, by all calls that change nothing.
func is(m *move.Moves, l ...api.Way) bool {
	pairs := map[[2]int]bool{}
	for _, w := range l {
		if x, known := m.Move(w.Move); !known || !same(x, w) {
			return false
		}
		pairs[[2]int{w.From, w.To}], pairs[[2]int{w.To, w.From}] = true, true
	}
	for p := range pairs {
		if !slices.Equal(m.Under(p[0], p[1]), sums(l, p[0], p[1])) {
			return false
		}
	}
	return m.Len() == len(l) && slices.EqualFunc(l, slices.Collect(m.All()), same) && bytes.Equal(m.Pack(), code(l...))
}

func has(t *testing.T, name string, m *move.Moves, l ...api.Way) {
	t.Helper()
	if !is(m, l...) {
		t.Fatalf("%s: %d, %v, %q, not %v", name, m.Len(), slices.Collect(m.All()), m.Pack(), l)
	}
}

// goes looks what Go answers, that what is refused changes nothing, and that what is handed in stays as it is.
func goes(t *testing.T, m *move.Moves, number, from, to int, l []api.Item, want api.Errno) {
	t.Helper()
	args := slices.Clone(l)
	told(t, m, want, func() api.Errno { return m.Go(number, from, to, l) })
	if !slices.Equal(l, args) {
		t.Fatalf("%v was changed: %v", args, l)
	}
}

func comes(t *testing.T, m *move.Moves, number int, l []api.Item, want api.Errno) {
	t.Helper()
	told(t, m, want, func() api.Errno {
		items, e := m.Come(number)
		if !slices.Equal(items, l) {
			t.Fatalf("Come(%d) = %v, not %v", number, items, l)
		}
		return e
	})
}

func forgets(t *testing.T, m *move.Moves, number int, want api.Errno) {
	t.Helper()
	told(t, m, want, func() api.Errno { return m.Forget(number) })
}

func told(t *testing.T, m *move.Moves, want api.Errno, call func() api.Errno) {
	t.Helper()
	before, all := m.Pack(), slices.Collect(m.All())
	if e := call(); e != want {
		t.Fatalf("%d, not %d", e, want)
	}
	if want != api.OK && (!bytes.Equal(m.Pack(), before) || !slices.EqualFunc(slices.Collect(m.All()), all, same)) {
		t.Fatalf("%d changed something", want)
	}
}

// mayNots are lists that may not be.
func mayNots() [][]api.Item {
	return [][]api.Item{
		list("a 0"), list("a -1"), list("b 1, a 1"), list("a 1, a 1"), list("A 1"), item("", 1), item("abcdefghijklmnopq", 1),
		item("a", most+1), goods(0, 17, 1), list("a 1, b 0"), {{}},
	}
}

// noMoves are numbers that no move has.
func noMoves() []int {
	return []int{0, -1, -1 << 63, api.MaxOrder + 1, 1<<63 - 1}
}

// noWays are pairs of regions between which no move goes.
func noWays() [][2]int {
	l := [][2]int{}
	for _, no := range []int{-1, -1 << 63, 8, 9, 64, 256, 1<<63 - 1} {
		l = append(l, [2]int{no, 0}, [2]int{no, 7}, [2]int{0, no}, [2]int{7, no}, [2]int{no, no}, [2]int{no, -1}, [2]int{8, no})
	}
	for region := range 8 {
		l = append(l, [2]int{region, region})
	}
	return l
}

// ruin writes over lists, their spare room too.
func ruin(lists ...[]api.Item) {
	for _, l := range lists {
		l = l[:cap(l)]
		for i := range l {
			l[i] = api.Item{Good: "ruin", N: -1}
		}
	}
}
