package link_test

import (
	"bytes"
	"math"
	"math/rand"
	"slices"
	"strings"
	"testing"

	"entrepot/api"
	"entrepot/link"
)

// mays are packets that may be, those at the edges among them.
func mays() []api.Packet {
	var l []api.Packet
	for _, seq := range []int{0, 1, 127, 128, 300, most - 1, most} {
		for _, ack := range []int{0, 1, 127, 128, 300, most - 1, most} {
			l = append(l, packet(seq, ack, ""))
			if seq > 0 {
				for _, size := range []int{1, 127, 128, 2047, 2048} {
					l = append(l, packet(seq, ack, strings.Repeat("\xff", size)))
				}
			}
		}
	}
	return l
}

// mayNots are packets with one thing wrong each.
func mayNots() []api.Packet {
	var l []api.Packet
	for _, n := range []int{math.MinInt, -most, -1, most + 1, 1 << 41, math.MaxInt} {
		l = append(l, packet(n, 0, ""), packet(n, 1, "a"), packet(0, n, ""), packet(1, n, "a"), packet(n, n, ""))
	}
	for _, size := range []int{2049, 4096, 1 << 16, 1 << 18} {
		l = append(l, packet(1, 0, strings.Repeat("a", size)), packet(most, most, strings.Repeat("\x00", size)))
	}
	for _, size := range []int{1, 2048, 2049} {
		l = append(l, packet(0, 0, strings.Repeat("a", size)), packet(0, 5, strings.Repeat("\x00", size)))
	}
	return l
}

// P12.3: bytes that were reckoned by hand.
func TestCodeOfPackets(t *testing.T) {
	for s, p := range map[string]api.Packet{
		"\x00\x00\x00":                         {},
		"\x00\x05\x00":                         {Ack: 5},
		"\x01\x00\x00":                         {Seq: 1},
		"\x01\x02\x03abc":                      packet(1, 2, "abc"),
		"\x81\x80\x82\x01\x2c\x01\x00":         packet(128, 300, "\x00"),
		"\x86\x01\x00\x00\x00\x00\x00\x00\x00": packet(most, 0, ""),
	} {
		if b, e := link.Encode(p); string(b) != s || e != api.OK {
			t.Errorf("Encode(%v) = %q, %d, not %q", p, b, e, s)
		}
		if q, e := link.Decode([]byte(s)); !same(p, q) || e != api.OK {
			t.Errorf("Decode(%q) = %v, %d, not %v", s, q, e, p)
		}
	}
}

// P12.3
func TestPacketsThatMayBe(t *testing.T) {
	for _, p := range mays() {
		if !link.May(p) {
			t.Errorf("%d, %d may not be", p.Seq, p.Ack)
		}
		b, e := link.Encode(p)
		if e != api.OK || !bytes.Equal(b, packetCode(p)) {
			t.Errorf("Encode of %d, %d: %q, %d", p.Seq, p.Ack, b, e)
		}
		if q, e := link.Decode(b); e != api.OK || !same(p, q) {
			t.Errorf("Decode of %d, %d: %v, %d", p.Seq, p.Ack, q, e)
		}
	}
	if !link.May(api.Packet{Body: []byte{}}) {
		t.Error("an empty body is not none")
	}
}

// P12.3
func TestPacketsThatMayNotBe(t *testing.T) {
	for _, p := range mayNots() {
		if link.May(p) {
			t.Errorf("%d, %d, %d bytes may be", p.Seq, p.Ack, len(p.Body))
		}
		if b, e := link.Encode(p); b != nil || e != api.ErrArg {
			t.Errorf("Encode of %d, %d, %d bytes: %q, %d", p.Seq, p.Ack, len(p.Body), b, e)
		}
		notDecoded(t, "one that may not be", packetCode(p))
	}
}

func notDecoded(t *testing.T, name string, b []byte) {
	t.Helper()
	if p, e := link.Decode(b); !zero(p) || e != api.ErrCode {
		t.Errorf("%s: Decode(%q) = %v, %d", name, b, p, e)
	}
}

// P12.3: what is cut off, goes on, or is no cell.
func TestDecodeRefusesOtherBytes(t *testing.T) {
	b := packetCode(packet(300, 128, "a body of some bytes"))
	for size := range b {
		notDecoded(t, "cut off", b[:size])
	}
	for _, more := range []string{"\x00", "\xff", string(b)} {
		notDecoded(t, "more behind", append(slices.Clone(b), more...))
	}
	for _, s := range []string{"\x81\x01\x00\x00", "\x01\x81\x7f\x00", "\x01\x00\x81\x00", "\x80\x00\x00", "\x90\x00\x00", "\x01\x90\x00", "\x01\x01\x90", "\x01\x01\x02a", "\x01\x01\x01", "\xff\x00\x00", "\x01\x00\x88\xff\xff\xff\xff\xff\xff\xff\xff"} {
		notDecoded(t, "no cell", []byte(s))
	}
	notDecoded(t, "nothing", nil)
}

// P12.3: whatever bytes: what is decoded is encoded to the same.
func TestDecodeOfChangedBytes(t *testing.T) {
	r := rand.New(rand.NewSource(1))
	whole := [][]byte{packetCode(packet(5, 3, "body")), packetCode(packet(300, 70000, "")), packetCode(packet(0, most, ""))}
	taken := 0
	for i := range 200000 {
		b := slices.Clone(whole[i%3])
		for range 1 + r.Intn(3) {
			b[r.Intn(len(b))] = byte(r.Intn(256))
		}
		p, e := link.Decode(b)
		if e == api.ErrCode && zero(p) {
			continue
		}
		taken++
		if c, f := link.Encode(p); e != api.OK || f != api.OK || !bytes.Equal(b, c) || !link.May(p) {
			t.Fatalf("%q: %v, %d, %q", b, p, e, c)
		}
	}
	if taken < 1000 {
		t.Error("taken:", taken)
	}
}

// R3
func TestPacketsAreNotShared(t *testing.T) {
	room := []byte("body and more")
	p := api.Packet{Seq: 1, Body: room[:4]}
	b, _ := link.Encode(p)
	clear(b[:cap(b)])
	if string(room) != "body and more" {
		t.Errorf("%q", room)
	}
	b, _ = link.Encode(p)
	q, _ := link.Decode(b)
	clear(b)
	if string(q.Body) != "body" {
		t.Errorf("%q", q.Body)
	}
}

// P12.5: bytes that were reckoned by hand.
func TestPack(t *testing.T) {
	e := link.New()
	for range 200 {
		e.Send(nil, 0)
		e.On(api.Packet{Ack: most})
	}
	on(t, e, packet(1, 0, ""), "", packet(0, 1, ""))
	send(t, e, "ab", 300, packet(201, 1, "ab"))
	send(t, e, "", -10, packet(202, 1, ""))
	tick(t, e, 0, packet(202, 1, ""))
	want := "\x81\xca\x01\x02" + "\x02ab\x01\x82\x01\x2e" + "\x00\x02\x04"
	if b := e.Pack(); string(b) != want {
		t.Errorf("%q, not %q", b, want)
	}
	send(t, e, "x", -300, packet(203, 1, "x"))
	if b := e.Pack(); string(b) != "\x81\xcb\x01\x03"+want[4:]+"\x01x\x01\x92\x01\x29" {
		t.Errorf("%q", b)
	}
}

// P12.5: ends at the edges of what may be.
func TestUnpackAtTheEdges(t *testing.T) {
	whole := strings.Repeat("\xfe", 2048)
	full := state{sent: 64, mark: math.MaxInt}
	for range 64 {
		full.open = append(full.open, line{whole, math.MaxInt, math.MinInt})
	}
	long := state{sent: math.MaxInt, open: full.open}
	for _, s := range []state{
		{}, {sent: 1}, {mark: 1}, {sent: most, mark: most}, {sent: math.MaxInt}, {mark: math.MaxInt}, full, long,
		{sent: 1, open: []line{{"", 1, 0}}}, {sent: 1, open: []line{{"", math.MaxInt, -1}}},
		{sent: 2, open: []line{{whole, 1, math.MaxInt}, {"", 2, math.MinInt}}},
	} {
		e := of(t, s)
		has(t, "at the edge", e, s)
	}
	// Their numbers are the last ones that were sent.
	e := of(t, long)
	l := e.Tick(0)
	if len(l) != 64 || l[0].Seq != math.MaxInt-63 || l[63].Seq != math.MaxInt || string(l[63].Body) != whole {
		t.Error(len(l))
	}
}

func notUnpacked(t *testing.T, name string, b []byte) {
	t.Helper()
	if e, err := link.Unpack(b); e != nil || err != api.ErrCode {
		t.Errorf("%s: %v, %d", name, e, err)
	}
}

// P12.5: each thing that the chapter names.
func TestUnpackRefusesStates(t *testing.T) {
	one := line{"a", 1, 0}
	for name, s := range map[string]state{
		"more than were sent":         {sent: 1, open: []line{one, one}},
		"one, of none that were sent": {open: []line{one}},
		"64, of 63":                   {sent: 63, open: slices.Repeat([]line{one}, 64)},
		"65":                          {sent: 100, open: slices.Repeat([]line{one}, 65)},
		"65, of 65":                   {sent: 65, open: slices.Repeat([]line{one}, 65)},
		"sent below 0":                {sent: -1},
		"sent far below 0":            {sent: math.MinInt},
		"sent below 0, with one":      {sent: -1, open: []line{one}},
		"a mark below 0":              {sent: 1, mark: -1, open: []line{one}},
		"a mark far below 0":          {mark: math.MinInt},
		"never tried":                 {sent: 2, open: []line{one, {"b", 0, 5}}},
		"never tried, first":          {sent: 2, open: []line{{"b", 0, 5}, one}},
		"tried below 0":               {sent: 1, open: []line{{"b", -1, 5}}},
		"tried far below 0":           {sent: 1, open: []line{{"b", math.MinInt, 5}}},
		"a long body":                 {sent: 1, open: []line{{strings.Repeat("b", 2049), 1, 5}}},
		"a long body behind":          {sent: 9, open: []line{one, one, {strings.Repeat("b", 2049), 1, 5}}},
	} {
		notUnpacked(t, name, code(s))
	}
	for _, b := range [][]byte{nums(nil, 1, 0, -1), nums(nil, 1, 0, math.MaxInt), nums(nil, math.MaxInt, 0, 1<<40)} {
		notUnpacked(t, "so many", b)
	}
}

// P12.5: what is cut off, goes on, or is no cell.
func TestUnpackRefusesOtherBytes(t *testing.T) {
	b := code(state{300, 128, []line{{"a body", 1, 300}, {"", 129, -300}}})
	for size := range b {
		notUnpacked(t, "cut off", b[:size])
	}
	for _, more := range []string{"\x00", "\xff", string(b)} {
		notUnpacked(t, "more behind", append(slices.Clone(b), more...))
	}
	for _, s := range []string{"\x81\x01\x00\x00", "\x00\x81\x7f\x00", "\x01\x00\x81\x00", "\x80\x00\x00", "\x01\x00\x01\x01a\x81\x01\x00", "\x01\x00\x01\x01a\x01\x91\x00", "\x01\x00\x01\x81\x01a\x01\x00", "\x01\x00\x01\x02a\x01\x00", "\x01\x00\x01\x90\x01\x00"} {
		notUnpacked(t, "no cell", []byte(s))
	}
	notUnpacked(t, "nothing", nil)
}

// P12.5: whatever bytes: what is unpacked is packed to the same.
func TestUnpackOfChangedBytes(t *testing.T) {
	r := rand.New(rand.NewSource(2))
	whole := code(state{70, 5, []line{{"abc", 3, 9}, {"", 1, -400}, {"x", 70, 100000}}})
	taken := 0
	for range 300000 {
		b := slices.Clone(whole)
		for range 1 + r.Intn(3) {
			b[r.Intn(len(b))] = byte(r.Intn(256))
		}
		e, err := link.Unpack(b)
		if err == api.ErrCode && e == nil {
			continue
		}
		taken++
		if err != api.OK || !bytes.Equal(e.Pack(), b) {
			t.Fatalf("%q: %d, %q", b, err, e.Pack())
		}
	}
	if taken < 1000 {
		t.Error("taken:", taken)
	}
}

// P12.5: an end that was packed and unpacked goes on as the first one.
func TestUnpackGoesOn(t *testing.T) {
	e := of(t, state{9, 3, []line{{"f", 1, 5}, {"g", 1, 7}, {"h", 3, -2}, {"i", 2, 5}}})
	b := e.Pack()
	again, _ := link.Unpack(b)
	clear(b[:cap(b)])
	for _, e := range []*link.End{e, again} {
		off(t, e, packet(0, 6, ""), api.Packet{})
		tick(t, e, 5, packet(8, 3, "h"), packet(9, 3, "i"))
		send(t, e, "j", 6, packet(10, 3, "j"))
		on(t, e, packet(4, 8, "d"), "d", packet(0, 4, ""))
		tick(t, e, 8, packet(10, 4, "j"))
		has(t, "behind", e, state{10, 4, []line{{"i", 3, 13}, {"j", 2, 12}}})
	}
}
