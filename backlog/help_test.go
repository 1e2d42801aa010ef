package backlog_test

import (
	"bytes"
	"slices"
	"testing"

	"entrepot/api"
	"entrepot/backlog"
	"entrepot/cells"
)

// line is an order, and whether it is ready.
type line struct {
	order int
	ready bool
}

// state is what a backlog has, in order, and the one that is out.
type state struct {
	out   int
	lines []line
}

// of is a state of orders, of which those below 0 are written so because they are ready.
func of(out int, orders ...int) state {
	s := state{out: out}
	for _, order := range orders {
		if order < 0 {
			s.lines = append(s.lines, line{-order, true})
		} else {
			s.lines = append(s.lines, line{order, false})
		}
	}
	return s
}

// many are orders 1000 and so on, all tried already.
func many(n int) state {
	var s state
	for i := range n {
		s.lines = append(s.lines, line{order: 1000 + i})
	}
	return s
}

// code is put down as the chapter tells it, of whatever state.
func code(s state) []byte {
	b := nums(nil, s.out, len(s.lines))
	for _, l := range s.lines {
		b = nums(b, l.order)
		if l.ready {
			b = nums(b, 1)
		} else {
			b = nums(b, 0)
		}
	}
	return b
}

func nums(b []byte, l ...int) []byte {
	for _, n := range l {
		b = append(b, cells.Num(n)...)
	}
	return b
}

// unpacked is a backlog that has just this.
func unpacked(t *testing.T, s state) *backlog.Backlog {
	t.Helper()
	b, e := backlog.Unpack(code(s))
	if e != api.OK || b == nil {
		t.Fatal(s, e)
	}
	return b
}

func all(b *backlog.Backlog) []line {
	var l []line
	for order, ready := range b.All() {
		l = append(l, line{order, ready})
	}
	return l
}

// has looks whether a backlog has just this, by all calls that change nothing.
func has(t *testing.T, name string, b *backlog.Backlog, want state) {
	t.Helper()
	if !is(b, want) {
		t.Fatalf("%s: %d out, %v, %d, not %v; %q", name, b.Out(), all(b), b.Len(), want, b.Pack())
	}
}

func is(b *backlog.Backlog, want state) bool {
	for place, l := range want.lines {
		if b.Place(l.order) != place {
			return false
		}
	}
	return b.Out() == want.out && b.Len() == len(want.lines) && slices.Equal(all(b), want.lines) && bytes.Equal(b.Pack(), code(want))
}

// model is a backlog reckoned plainly: of each order that came it knows when, and at which news it was tried last.
type model struct {
	orders map[int]entry
	clock  int
	news   int
	out    int
}

// entry is ready, if it came, and was tried, ahead of the last news that it heard.
type entry struct {
	came, heard, tried int
}

func newModel() *model {
	return &model{orders: map[int]entry{}}
}

func (m *model) push(order int) api.Errno {
	_, there := m.orders[order]
	if order < 1 {
		return api.ErrArg
	}
	if there {
		return api.ErrTwice
	}
	if len(m.orders) == 256 {
		return api.ErrFull
	}
	m.clock++
	m.orders[order] = entry{came: m.clock, heard: 0, tried: 1}
	return api.OK
}

func (m *model) drop(order int) bool {
	_, there := m.orders[order]
	delete(m.orders, order)
	if there && m.out == order {
		m.out = 0
	}
	return there
}

func (m *model) tell() {
	m.news += 2
	for order, e := range m.orders {
		if order != m.out {
			e.heard = m.news
			m.orders[order] = e
		}
	}
}

func (m *model) try() (int, bool) {
	first := 0
	for order, e := range m.orders {
		if e.heard > e.tried && (first == 0 || e.came < m.orders[first].came) {
			first = order
		}
	}
	if first == 0 || m.out != 0 {
		return 0, false
	}
	e := m.orders[first]
	e.tried = m.news + 1
	m.orders[first], m.out = e, first
	return first, true
}

func (m *model) back(order int) bool {
	if order < 1 || order != m.out {
		return false
	}
	m.out = 0
	return true
}

func (m *model) state() state {
	s := state{out: m.out, lines: make([]line, len(m.orders))}
	for order, e := range m.orders {
		place := 0
		for _, other := range m.orders {
			if other.came < e.came {
				place++
			}
		}
		s.lines[place] = line{order, e.heard > e.tried}
	}
	return s
}
