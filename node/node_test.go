package node_test

import (
	"bytes"
	"math"
	"testing"

	"entrepot/api"
	"entrepot/asks"
	"entrepot/node"
	"entrepot/sector"
)

// P23.1: which nodes there may be, each refusal ahead of those behind it.
func TestOpenRefuses(t *testing.T) {
	off := device(t, 64)
	off.Stop(0)
	junk := logged(t, 64, []byte("junk"))
	for _, me := range []int{math.MinInt, -1, 0, 1, 2, 7, 8, math.MaxInt} {
		for _, regions := range []int{math.MinInt, -1, 0, 1, 2, 7, 8, 9, math.MaxInt} {
			may := regions >= 1 && regions <= 8 && me >= 0 && me < regions
			for _, c := range []struct {
				d    *sector.Device
				want api.Errno
			}{{device(t, 64), api.OK}, {off, api.ErrOff}, {nil, api.ErrArg}, {device(t, 3), api.ErrArg}, {device(t, 4), api.OK}, {junk, api.ErrCode}} {
				want := c.want
				if !may {
					want = api.ErrArg
				}
				if n, e := node.Open(c.d, me, regions); e != want || (n != nil) != (want == api.OK) {
					t.Fatal(me, regions, c.want, e)
				}
			}
		}
	}
}

// P23.1: what wal.Open refuses in the middle too, wherever the power goes.
func TestOpenWithoutPower(t *testing.T) {
	d := logged(t, 20, tickCode(), tickCode())
	for calls := range 200 {
		d.Stop(calls)
		n, e := node.Open(d, 0, 1)
		if e == api.OK {
			if n.Len() != 2 || calls < 12 {
				t.Error(calls, n.Len())
			}
			return
		}
		if e != api.ErrOff || n != nil {
			t.Fatal(calls, e)
		}
		d.Crash(nil, -1, 0)
	}
	t.Error("never opened")
}

// P23.2: a node that was told nothing.
func TestNewNode(t *testing.T) {
	for regions := 1; regions <= 8; regions++ {
		for me := range regions {
			b := at(t, me, regions, 64)
			b.has(0, 0, 0)
			if b.Used() != 0 {
				t.Error(b.Used())
			}
			want := "\x00\x01\x00" + string(text(nil, b.Region().Pack())) + "\x00"
			for range regions - 1 {
				want += "\x00\x00\x00\x00"
			}
			if s := b.State(); string(s) != want {
				t.Errorf("%q, not %q", s, want)
			}
		}
	}
}

// Example 1.
func TestOneRegion(t *testing.T) {
	b := at(t, 0, 1, 64)
	b.ask(asks.Receive(1, 1, 0, "a 5"), tells(1, 1, api.OK, 0))
	b.has(0, 0, 1)
	if l := b.Region().Shelf().Level("a"); l.Free != 5 || b.Used() != 1 {
		t.Error(l, b.Used())
	}
	b.ask(asks.Receive(1, 1, 0, "a 5"), tells(1, 1, api.OK, 0))
	b.ask(asks.Order(2, 1, "a 7", 1), tells(2, 1, api.ErrWait, 0))
	b.ask(asks.Count(1, 2, 0, "a", 9), tells(1, 2, api.OK, 4))
	b.ask(asks.About(api.AskPick, 2, 2, 66), tells(2, 2, api.OK, 0))
	b.ask(asks.About(api.AskShip, 2, 3, 66), tells(2, 3, api.OK, 0))
	if l := b.Region().Shelf().Level("a"); l.Free != 2 || b.Len() != 6 {
		t.Error(l, b.Len())
	}
	b.tick()
}

// P23.2: bytes that were reckoned by hand, but for what the desk and the region pack.
func TestState(t *testing.T) {
	b := at(t, 1, 3, 64)
	b.tick()
	b.tick()
	b.ask(asks.Order(1, 2, "a 5", 0), sends(2, 1, 0, about(api.MailTake, 129, "a 5")))
	b.ask(asks.Order(4, 200, "b 1", 1), sends(2, 2, 0, about(api.MailTake, 12804, "b 1")))
	b.ask(asks.Low(5, 1, 1), sends(2, 3, 0, mailAsk(asks.Low(5, 1, 1))))
	b.mail(0, 1, 0, news(), marks(0, 1))
	b.mail(2, 1, 1, about(api.MailTook, 129, "a 5"), tells(1, 2, api.OK, 0), marks(2, 1))
	want := text(text([]byte{2}, b.Desk().Pack()), b.Region().Pack())
	want = append(want, 2, 0x81, 129, api.SagaHeld, 0x82, 50, 4, api.SagaAsking)
	want = append(want, 0, 1, 0, 0, 3, 1, 2, 0)
	if s := b.State(); !bytes.Equal(s, want) {
		t.Errorf("%q, not %q", s, want)
	}
}

// P23.2
func TestNilNode(t *testing.T) {
	var n *node.Node
	for _, call := range []func() ([]api.Sent, api.Errno){
		n.Tick,
		func() ([]api.Sent, api.Errno) { return n.Ask(asks.Code(asks.Low(1, 1, 1))) },
		func() ([]api.Sent, api.Errno) { return n.Ask(nil) },
		func() ([]api.Sent, api.Errno) { return n.On(1, packet(1, 0, nil)) },
		func() ([]api.Sent, api.Errno) { return n.On(-1, nil) },
		func() ([]api.Sent, api.Errno) { return nil, n.Checkpoint() },
	} {
		if l, e := call(); l != nil || e != api.ErrClosed {
			t.Error(l, e)
		}
	}
	if n.Desk() != nil || n.Region() != nil || n.State() != nil || n.Open() != 0 || n.Late() != 0 || n.Len() != 0 || n.Used() != 0 {
		t.Error("not nothing")
	}
}

// P23.2: Desk and Region are they themselves, not others that are the same.
func TestTheyThemselves(t *testing.T) {
	n := open(t, device(t, 64), 0, 2)
	d, r := n.Desk(), n.Region()
	n.Ask(asks.Code(asks.Order(2, 1, "a 5", 0)))
	if n.Desk() != d || n.Region() != r || d.Open() != 1 {
		t.Error(d.Open())
	}
	n.Ask(asks.Code(asks.Receive(2, 2, 0, "a 5")))
	if r.Shelf().Level("a").Free != 5 {
		t.Error(r.Shelf().Level("a"))
	}
}

// P23.1: what is no request, or no packet, is refused, and changes nothing.
func TestWrongBytes(t *testing.T) {
	b := at(t, 1, 2, 64)
	b.asked(asks.Order(1, 1, "a 5", 0))
	request := asks.Code(asks.Low(1, 2, 1))
	brings := packet(1, 0, body(news()))
	for _, c := range [][]byte{nil, {0}, []byte("junk"), request[:len(request)-1], append(bytes.Clone(request), 0), brings, askCode(asks.Low(1, 2, 1)), asks.Code(asks.Low(1, 2, 1))[1:]} {
		b.still("a request", api.ErrCode, func() ([]api.Sent, api.Errno) { return b.Ask(c) })
	}
	tooLong := packet(1, 0, make([]byte, 2049))
	for _, c := range [][]byte{nil, {0}, []byte("junk"), brings[:len(brings)-1], append(bytes.Clone(brings), 0), {0, 0, 1, 7}, {0x90, 0, 0}, tooLong, asks.Code(asks.Receive(1, 2, 1, "a 5"))} {
		b.still("a packet", api.ErrCode, func() ([]api.Sent, api.Errno) { return b.On(0, c) })
		// The region is looked at first.
		for _, from := range []int{math.MinInt, -1, 1, 2, 3, 7, 8, math.MaxInt} {
			b.still("a packet of no region", api.ErrArg, func() ([]api.Sent, api.Errno) { return b.On(from, c) })
		}
	}
	for _, from := range []int{math.MinInt, -1, 1, 2, 3, 7, 8, math.MaxInt} {
		b.still("a packet of no region", api.ErrArg, func() ([]api.Sent, api.Errno) { return b.On(from, brings) })
	}
}

// R3: what is handed in is not kept, and what is answered is new.
func TestNothingIsShared(t *testing.T) {
	b := at(t, 0, 2, 64)
	spare := func(c []byte) []byte { return append(make([]byte, 0, 999), c...) }
	spoil := func(c []byte) {
		clear(c[:cap(c)])
	}
	request, brings := spare(asks.Code(asks.Order(2, 1, "a 5", 1))), spare(packet(1, 0, body(mailDo(asks.Receive(1, 1, 0, "a 3")))))
	before, same := bytes.Clone(request[:cap(request)]), bytes.Clone(brings[:cap(brings)])
	l, _ := b.Ask(request)
	m, _ := b.On(1, brings)
	if !bytes.Equal(request[:cap(request)], before) || !bytes.Equal(brings[:cap(brings)], same) {
		t.Error("changed")
	}
	spoil(request)
	spoil(brings)
	other := newPlain(t, 0, 2)
	wantL := other.ask(asks.Order(2, 1, "a 5", 1))
	wantM := other.on(1, packet(1, 0, body(mailDo(asks.Receive(1, 1, 0, "a 3")))))
	b.wants("Ask", l, wantL)
	b.wants("On", m, wantM)
	for _, s := range append(l, m...) {
		spoil(s.Packet)
	}
	spoil(b.State())
	alike(t, "spoilt", b.Node, other)
	n, _ := b.Tick()
	b.wants("Tick", n, other.tick())
	n, _ = b.Tick()
	b.wants("Tick", n, other.tick())
	if len(n) == 0 {
		t.Error("nothing was sent again")
	}
}
