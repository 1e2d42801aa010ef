package stock

import (
	"slices"

	"entrepot/api"
	"entrepot/count"
)

// row is what a stock has of a good that it knows.
type row struct {
	level api.Level
	flow  api.Flow
}

// change is a line of the chapter's table: nil where it has nothing.
type change struct{ from, to, flow *int }

func (r *row) change(kind int) change {
	l, f := &r.level, &r.flow
	switch kind {
	case api.DoReceive:
		return change{nil, &l.Free, &f.Received}
	case api.DoHold:
		return change{&l.Free, &l.Held, nil}
	case api.DoRelease:
		return change{&l.Held, &l.Free, nil}
	case api.DoPick:
		return change{&l.Held, &l.Picked, nil}
	case api.DoUnpick:
		return change{&l.Picked, &l.Held, nil}
	case api.DoShip:
		return change{&l.Picked, nil, &f.Shipped}
	case api.DoReturn:
		return change{nil, &l.Aside, &f.Returned}
	case api.DoRestock:
		return change{&l.Aside, &l.Free, nil}
	case api.DoScrap:
		return change{&l.Aside, nil, &f.Scrapped}
	case api.DoSend:
		return change{&l.Free, nil, &f.Sent}
	case api.DoCome:
		return change{nil, &l.Free, &f.Came}
	}
	return change{}
}

// about is whether there is such a kind, and whether it takes from a level.
func about(kind int) (known, takes bool) {
	var r row
	c := r.change(kind)
	return c.from != nil || c.to != nil, c.from != nil
}

// done may answer a row that may not be: who asks for it looks at it.
func (r row) done(kind, n int) row {
	c := r.change(kind)
	if c.from != nil {
		*c.from -= n
	}
	if c.to != nil {
		*c.to += n
	}
	if c.flow != nil {
		*c.flow += n
	}
	return r
}

// lacks is whether more was taken than there was.
func (r row) lacks() bool {
	return slices.Min(levels(r.level)) < 0
}

// over is whether a number that is not below 0 is above what it may be.
func (r row) over() bool {
	_, e := count.Sum(levels(r.level)...)
	return e != api.OK || !mayFlow(r.flow)
}

func levels(l api.Level) []int {
	return []int{l.Free, l.Held, l.Picked, l.Aside}
}

// mayFlow leaves Counted out, which has other bounds.
func mayFlow(f api.Flow) bool {
	for _, n := range []int{f.Received, f.Returned, f.Came, f.Shipped, f.Scrapped, f.Sent} {
		if n < 0 || n > api.MaxFlow {
			return false
		}
	}
	return true
}

// mostCounted is more than a balanced good ever has counted, to either side, and little enough for sums to have room in an int.
const mostCounted = 1 << 59

func Balanced(l api.Level, f api.Flow) bool {
	for _, n := range levels(l) {
		if !count.May(n) {
			return false
		}
	}
	if !mayFlow(f) || f.Counted < -mostCounted || f.Counted > mostCounted {
		return false
	}
	here := l.Free + l.Held + l.Picked + l.Aside
	came := f.Received + f.Returned + f.Counted + f.Came
	went := f.Shipped + f.Scrapped + f.Sent
	return here == came-went
}
