package backlog_test

import (
	"bytes"
	"math"
	"math/rand"
	"slices"
	"testing"

	"entrepot/api"
	"entrepot/backlog"
)

// P16.4: bytes that were reckoned by hand.
func TestPack(t *testing.T) {
	b := backlog.New()
	packs := func(want string) {
		t.Helper()
		if c := b.Pack(); string(c) != want {
			t.Fatalf("%q, not %q", c, want)
		}
		again, e := backlog.Unpack([]byte(want))
		if e != api.OK || string(again.Pack()) != want {
			t.Fatalf("%q, %d, not %q", again.Pack(), e, want)
		}
	}
	packs("\x00\x00")
	push(t, b, 5, api.OK)
	packs("\x00\x01\x05\x00")
	push(t, b, 300, api.OK)
	b.News()
	packs("\x00\x02\x05\x01\x82\x01\x2c\x01")
	try(t, b, 5)
	packs("\x05\x02\x05\x00\x82\x01\x2c\x01")
	push(t, b, 128, api.OK)
	packs("\x05\x03\x05\x00\x82\x01\x2c\x01\x81\x80\x00")
	drop(t, b, 5, true)
	try(t, b, 300)
	packs("\x82\x01\x2c\x02\x82\x01\x2c\x00\x81\x80\x00")
	back(t, b, 300, true)
	packs("\x00\x02\x82\x01\x2c\x00\x81\x80\x00")
}

// P16.4: backlogs at the edges of what may be.
func TestUnpackAtTheEdges(t *testing.T) {
	full := many(256)
	out := many(256)
	out.out = 1255
	var ready state
	for i := range 256 {
		ready.lines = append(ready.lines, line{math.MaxInt - i, true})
	}
	for _, s := range []state{of(0), of(0, 1), of(0, -1), of(1, 1), of(math.MaxInt, math.MaxInt, -1), of(2, -1, 2), of(0, 3, 2, -1), many(255), full, out, ready} {
		has(t, "at the edge", unpacked(t, s), s)
	}
}

func notUnpacked(t *testing.T, name string, c []byte) {
	t.Helper()
	if b, e := backlog.Unpack(c); b != nil || e != api.ErrCode {
		t.Errorf("%s: Unpack(%q) = %v, %d", name, c, b, e)
	}
}

// P16.4: each thing that the chapter names.
func TestUnpackRefusesStates(t *testing.T) {
	outOfMany := many(257)
	outOfMany.out = 1256
	twiceAtTheEnd := many(256)
	twiceAtTheEnd.lines[255].order = 1000
	for name, s := range map[string]state{
		"too many":                  many(257),
		"too many, one out":         outOfMany,
		"far too many":              many(1000),
		"an order of 0":             of(0, 0),
		"an order of 0 behind":      of(0, 1, -2, 0),
		"an order below 0":          {lines: []line{{-1, false}}},
		"one far below 0":           {lines: []line{{1, true}, {math.MinInt, true}}},
		"twice":                     of(0, 1, 1),
		"twice, of both kinds":      of(0, -1, 1),
		"twice, far apart":          of(0, 1, 2, 3, 1),
		"twice at the end":          twiceAtTheEnd,
		"one out of none":           of(1),
		"one out that is elsewhere": of(4, 1, 2, 3),
		"one out below 0":           of(-1, 1),
		"one out below 0 of none":   of(-1),
		"one out far below 0":       of(math.MinInt, 1),
		"one out that is ready":     of(1, -1),
		"one out, ready, behind":    of(3, 1, -2, -3),
	} {
		notUnpacked(t, name, code(s))
	}
	for _, n := range []int{-1, math.MinInt, math.MaxInt, 1 << 40, 257} {
		notUnpacked(t, "so many", nums(nil, 0, n))
	}
}

// P16.4: what is cut off, goes on, or is no cell.
func TestUnpackRefusesOtherBytes(t *testing.T) {
	c := code(of(300, 5, 300, -128, -7))
	for size := range c {
		notUnpacked(t, "cut off", c[:size])
	}
	for _, more := range []string{"\x00", "\x01", "\xff", string(c)} {
		notUnpacked(t, "more behind", append(slices.Clone(c), more...))
	}
	for _, s := range []string{
		"\x81\x00\x00", "\x00\x81\x00", "\x80\x00", "\x90\x00", "\xff\x00", "\x00\x80", "\x00\x90", "\x00\x01\x81\x05\x00", "\x00\x01\x05\x02", "\x00\x01\x05\x81\x01", "\x00\x01\x05\x90", "\x00\x01\x80\x00", "\x00\x01\x90\x00",
		"\x00\x01\x88\xff\xff\xff\xff\xff\xff\xff\xff\x00", "\x88\xff\xff\xff\xff\xff\xff\xff\xff\x00", "\x00\x02\x05\x00", "\x00\x02\x05\x00\x07", "\x05\x01\x05\x01", "\x00",
	} {
		notUnpacked(t, "no cell", []byte(s))
	}
	notUnpacked(t, "nothing", nil)
	notUnpacked(t, "zeros", make([]byte, 1000))
}

// P16.4: whatever bytes: what is unpacked is packed to the same.
func TestUnpackOfChangedBytes(t *testing.T) {
	r := rand.New(rand.NewSource(16))
	whole := code(of(300, 5, 300, -2, -7, 1))
	taken := 0
	for range 300000 {
		c := slices.Clone(whole)
		for range 1 + r.Intn(3) {
			c[r.Intn(len(c))] = byte(r.Intn(12))
		}
		b, e := backlog.Unpack(c)
		if e == api.ErrCode && b == nil {
			continue
		}
		taken++
		if e != api.OK || !bytes.Equal(b.Pack(), c) {
			t.Fatalf("%q: %d, %q", c, e, b.Pack())
		}
	}
	if taken < 1000 {
		t.Error("taken:", taken)
	}
}

// P16.4, R3: a backlog that was packed and unpacked goes on as the first one, whatever becomes of the bytes.
func TestUnpackGoesOn(t *testing.T) {
	b := unpacked(t, of(3, -1, 2, 3, -4))
	c := b.Pack()
	again, _ := backlog.Unpack(c)
	clear(c[:cap(c)])
	has(t, "packed", b, of(3, -1, 2, 3, -4))
	for _, b := range []*backlog.Backlog{b, again} {
		try(t, b, 0)
		back(t, b, 3, true)
		try(t, b, 1)
		b.News()
		push(t, b, 5, api.OK)
		drop(t, b, 2, true)
		has(t, "behind", b, of(1, 1, -3, -4, 5))
	}
}
