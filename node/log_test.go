package node_test

import (
	"bytes"
	"math"
	"slices"
	"strings"
	"testing"

	"entrepot/api"
	"entrepot/asks"
	"entrepot/node"
	"entrepot/sector"
)

func hasEntries(t *testing.T, d *sector.Device, want ...[]byte) {
	t.Helper()
	if l := entries(t, d); !slices.EqualFunc(l, want, bytes.Equal) {
		t.Fatalf("%q, not %q", l, want)
	}
}

// P23.1: each input is in the log as its code; what is refused is not.
func TestInputsAreLogged(t *testing.T) {
	d := device(t, 64)
	n := open(t, d, 1, 3)
	a := asks.Receive(1, 1, 1, "a 5")
	brings, junk := packet(1, 0, body(news())), packet(9, 0, []byte("junk"))
	n.Ask(asks.Code(a))
	n.Tick()
	n.Ask([]byte("junk"))
	n.On(0, brings)
	n.On(1, brings)
	n.On(2, junk)
	n.On(2, []byte("junk"))
	n.Tick()
	if n.Used() != 5 || n.Len() != 5 {
		t.Error(n.Used(), n.Len())
	}
	d.Crash(nil, -1, 0)
	hasEntries(t, d, askCode(a), []byte{1, 0, 0}, onCode(0, brings), onCode(2, junk), []byte{1, 0, 0})
}

// P23.2: a checkpoint puts a snapshot in place of all; what comes is behind it. A node that is opened has both.
func TestCheckpoint(t *testing.T) {
	d := device(t, 256)
	b := at(t, 1, 3, 256)
	b.Node = open(t, d, 1, 3)
	b.asked(asks.Receive(1, 1, 1, "a 5"))
	b.asked(asks.Order(4, 2, "a 7, b 1", 1))
	b.asked(asks.Move(1, 3, 1, 2, "a 1"))
	b.ticked()
	b.came(0, packet(1, 1, body(about(api.MailGoods, 700, "b 3"))))
	b.lows(0, 5, 75)
	before := b.Len()
	if e := b.Checkpoint(); e != api.OK || b.Used() != 1 {
		t.Fatal(e, b.Used())
	}
	alike(t, "behind a checkpoint", b.Node, b.plain)
	hasEntries(t, d, partsOf(b.plain.snapshot(), 60000)...)
	b.Node = open(t, d, 1, 3)
	if b.Used() != 1 || b.Len() != before || b.Late() == 0 {
		t.Fatal(b.Used(), b.Len(), b.Late())
	}
	b.ticked()
	b.came(2, packet(1, 0, body(news())))
	snapshot := partsOf(b.plain.snapshot(), 60000)
	if b.Used() != 3 || b.Len() != before+2 {
		t.Fatal(b.Used(), b.Len())
	}
	b.Node = open(t, d, 1, 3)
	alike(t, "opened behind a checkpoint", b.Node, b.plain)
	if e := b.Checkpoint(); e != api.OK {
		t.Fatal(e)
	}
	hasEntries(t, d, snapshot...)
}

// P23.2: what a snapshot of one region that was told nothing says, by hand.
func TestSnapshotByHand(t *testing.T) {
	d := device(t, 64)
	n := open(t, d, 0, 1)
	n.Tick()
	n.Ask(asks.Code(asks.Receive(5, 1, 0, "a 5")))
	if e := n.Checkpoint(); e != api.OK {
		t.Fatal(e)
	}
	want := text([]byte{2, 1, 2}, n.Desk().Save())
	want = text(text(text(want, n.Region().Save()), ""), "")
	hasEntries(t, d, text([]byte{4, 0}, want))
}

// wide is a node that has more than an entry of a log has room for.
func wide(t *testing.T) (*bench, [][]byte) {
	t.Helper()
	p := newPlain(t, 0, 4)
	long := ""
	for i := range 16 {
		long += ", good-of-bytes-" + string(rune('a'+i)) + "b 1000000"
	}
	for client := 1; client <= 3; client++ {
		for n := 1; n <= 74; n++ {
			p.ask(asks.Receive(client, n, 0, long[2:]))
		}
	}
	parts := partsOf(p.snapshot(), 60000)
	if len(parts) < 2 || p.lateMails() != 30 {
		t.Fatal(len(parts), p.lateMails())
	}
	b := at(t, 0, 4, 4096)
	b.plain = p
	b.Node = open(t, logged(t, 4096, parts...), 0, 4)
	b.other = logged(t, 4096, parts...)
	return b, parts
}

// P23.2: a snapshot of more than 60000 bytes is in parts.
func TestSnapshotInParts(t *testing.T) {
	b, parts := wide(t)
	alike(t, "of parts", b.Node, b.plain)
	if b.Used() != len(parts) || b.Len() != 222 {
		t.Error(b.Used(), b.Len())
	}
	if e := b.Checkpoint(); e != api.OK || b.Used() != len(parts) {
		t.Error(e, b.Used())
	}
	b.ticked()
	b.ticked()
	b.came(1, packet(0, 64, nil))
	if b.Used() != len(parts)+3 {
		t.Error(b.Used())
	}
}

// P23.1: snapshots whose parts are not whole.
func TestOpenRefusesParts(t *testing.T) {
	b, parts := wide(t)
	snapshot := b.plain.snapshot()
	first, last := parts[0], parts[len(parts)-1]
	refused := func(name string, l ...[]byte) {
		t.Helper()
		if n, e := node.Open(logged(t, 8192, l...), 0, 4); n != nil || e != api.ErrCode {
			t.Errorf("%s: %d", name, e)
		}
	}
	refused("the first one alone", first)
	refused("the last one alone", last)
	refused("without the first one", parts[1:]...)
	refused("without the last one", parts[:len(parts)-1]...)
	refused("the last one ahead", slices.Concat([][]byte{last}, parts[:len(parts)-1])...)
	refused("the first one twice", slices.Concat([][]byte{first}, parts)...)
	refused("the last one twice", slices.Concat(parts, [][]byte{last})...)
	refused("a tick ahead", slices.Concat([][]byte{tickCode()}, parts)...)
	refused("a tick between", first, tickCode(), last)
	refused("a tick in place of the last one", first, tickCode())
	refused("two snapshots", slices.Concat(parts, parts)...)
	refused("other parts", partsOf(snapshot, 59999)...)
	refused("longer parts", partsOf(snapshot, 60001)...)
	refused("as many behind the last one", first, text([]byte{4, 1}, snapshot[60000:]))
	refused("none behind the first one", text([]byte{4, 0}, snapshot[:60000]), last)
	refused("one more part, of nothing", text([]byte{4, 2}, snapshot[:60000]), text([]byte{4, 1}, snapshot[60000:]), []byte{4, 0, 0})
	refused("many parts behind", text(nums([]byte{4}, math.MaxInt), snapshot[:60000]), last)
	refused("parts below 0 behind", text(nums([]byte{4}, -1), snapshot[:60000]), last)
	refused("more bytes behind a part", append(bytes.Clone(first), 0), last)
	refused("a part cut off", first, last[:len(last)-1])
	if n, e := node.Open(logged(t, 8192, append(parts, tickCode())...), 0, 4); e != api.OK || n.Len() != 223 {
		t.Error(e)
	}
}

// P23.1: snapshots that say nothing: one thing wrong each.
func TestOpenRefusesSnapshots(t *testing.T) {
	b := at(t, 1, 3, 256)
	b.asked(asks.Order(4, 2, "a 7, b 1", 1))
	b.asked(asks.Receive(1, 1, 1, "a 5"))
	b.lows(0, 5, 75)
	p := b.plain
	late := func(to int) []byte {
		var l []byte
		for _, m := range p.late[to] {
			l = text(l, body(m))
		}
		return l
	}
	whole := func() []string {
		return []string{
			string(nums(nil, p.clock, p.told)), string(p.desk.Save()), string(p.region.Save()),
			string(p.ends[0].Pack()), string(late(0)), "", "", string(p.ends[2].Pack()), string(late(2)),
		}
	}
	if len(p.late[0]) == 0 {
		t.Fatal("nothing is late")
	}
	opened := func(name string, l []string, want api.Errno) {
		t.Helper()
		var snapshot []byte
		for _, s := range l {
			snapshot = text(snapshot, s)
		}
		n, e := node.Open(logged(t, 256, text([]byte{4, 0}, snapshot)), 1, 3)
		if e != want || (n == nil) != (e != api.OK) {
			t.Errorf("%s: %d, not %d", name, e, want)
		}
	}
	opened("whole", whole(), api.OK)
	opened("none", nil, api.ErrCode)
	for i := range whole() {
		opened("one text less", slices.Delete(whole(), i, i+1), api.ErrCode)
		opened("one text more", slices.Insert(whole(), i, ""), api.ErrCode)
	}
	opened("one text more, at the end", append(whole(), ""), api.ErrCode)
	for _, c := range []struct {
		place int
		texts []string
	}{
		{0, []string{"", "\x00", "\x00\x00\x00", "\x90\x00", "\x00\x90", "\x01\x81\x00", "\x80\x00", string(nums(nil, 1, math.MinInt))}},
		{1, []string{"", "junk", string(newPlain(t, 0, 3).desk.Save()) + "\x00", string(p.region.Save())}},
		{2, []string{"", "junk", string(p.desk.Save())}},
		{3, []string{"", "junk", "\x00\x00", "\x00\x00\x01", string(p.ends[0].Pack()) + "\x00"}},
		{4, []string{"junk", "\x00", "\x01", string(late(0)) + "\x00", string(late(0)) + "\x01\x0f", string(body(news())), "\x03\x0e\x00\x00", string(text(nil, asks.Code(asks.Low(0, 1, 1))))}},
		{5, []string{"\x00\x00\x00", string(p.ends[0].Pack()), "\x00"}},
		{6, []string{string(text(nil, body(news()))), "\x00", "junk"}},
		{7, []string{"", "junk"}},
		{8, []string{"junk", "\x00"}},
	} {
		for _, s := range c.texts {
			l := whole()
			l[c.place] = s
			opened(string(text(nums(nil, c.place), s)), l, api.ErrCode)
		}
	}
	for place, s := range map[int]string{0: string(nums(nil, math.MaxInt-1, math.MaxInt-1)), 3: "\x00\x00\x00", 4: "", 8: string(text(nil, body(news())))} {
		l := whole()
		l[place] = s
		opened("other texts that may be", l, api.OK)
	}
	// A whole snapshot of another region, or among others.
	whom := text([]byte{4, 0}, p.snapshot())
	for _, c := range [][2]int{{0, 3}, {2, 3}, {1, 2}, {1, 4}} {
		if n, e := node.Open(logged(t, 256, whom), c[0], c[1]); n != nil || e != api.ErrCode {
			t.Error(c, e)
		}
	}
	cut := p.snapshot()
	for size := range cut {
		if n, e := node.Open(logged(t, 256, text([]byte{4, 0}, cut[:size])), 1, 3); n != nil || e != api.ErrCode {
			t.Fatal(size, e)
		}
	}
}

// P23.1: entries that are no input's code: of kinds that there are not, of bytes that a node would have refused.
func TestOpenRefusesInputs(t *testing.T) {
	request, brings := asks.Code(asks.Low(0, 1, 1)), packet(1, 0, body(news()))
	is := [][]byte{
		{1, 0, 0}, text([]byte{2, 0}, request), text([]byte{3, 0}, brings), text([]byte{3, 2}, brings), text([]byte{3, 0}, packet(0, 0, nil)), text([]byte{3, 2}, packet(7, 5, []byte("junk"))),
		text([]byte{3, 0}, packet(1<<40, 1<<40, make([]byte, 2048))),
	}
	not := [][]byte{
		{}, {0, 0, 0}, {1}, {1, 0}, {1, 0, 0, 0}, {1, 1, 0}, {1, 0, 1, 0}, {1, 0x90, 0}, {5, 0, 0}, {4, 0, 0}, {0x90, 0, 0}, {2, 0, 0}, {3, 0, 0}, {1, 0, 0x81, 0}, []byte("junk"),
		text([]byte{1, 0}, request), text([]byte{2, 1}, request), text([]byte{2, 2}, request), text([]byte{3, 0}, request), text([]byte{2, 0}, request[1:]), text([]byte{2, 0}, append(bytes.Clone(request), 0)),
		text([]byte{3, 1}, brings), text([]byte{3, 3}, brings), text([]byte{3, 7}, brings), text([]byte{3, 8}, brings), text([]byte{3, 0x90}, brings), text([]byte{2, 0}, brings), text([]byte{3, 0}, brings[1:]), text([]byte{3, 0}, append(bytes.Clone(brings), 0)),
		append(text([]byte{1, 0}, ""), 0), append(text([]byte{2, 0}, request), 0), append(text([]byte{3, 0}, brings), 0), text([]byte{3, 0}, packet(1, 0, []byte(strings.Repeat("x", 2049)))), text([]byte{0x81, 2, 0}, request), text(nums([]byte{3}, math.MaxInt), brings),
	}
	for _, entry := range is {
		for _, l := range [][][]byte{{entry}, {tickCode(), entry}, {entry, tickCode()}} {
			if n, e := node.Open(logged(t, 256, l...), 1, 3); e != api.OK || n.Len() != len(l) || n.Used() != len(l) {
				t.Errorf("%q: %d", l, e)
			}
		}
	}
	snapshot := partsOf(newPlain(t, 1, 3).snapshot(), 60000)[0]
	for _, entry := range not {
		for _, l := range [][][]byte{{entry}, {tickCode(), entry}, {entry, tickCode()}, {snapshot, entry}, {snapshot, tickCode(), entry, tickCode()}} {
			if n, e := node.Open(logged(t, 256, l...), 1, 3); n != nil || e != api.ErrCode {
				t.Errorf("%q: %d", l, e)
			}
		}
	}
}

// P23.1: if the log is full, there is a checkpoint first; all goes on.
func TestFullLog(t *testing.T) {
	b := at(t, 0, 2, 32)
	checkpoints := 0
	for n := 1; n <= 450; n++ {
		used := b.Used()
		switch n % 3 {
		case 0:
			b.asked(asks.Receive(2, 1+n%6, 0, "a 5"))
		case 1:
			b.ticked()
		case 2:
			b.came(1, packet(1+n%4, 1000, body(news())))
		}
		if b.Used() != used+1 {
			checkpoints++
			if b.Used() != 2 {
				t.Fatal(b.Used(), "entries")
			}
		}
		b.has(b.Open(), 0, n)
	}
	if checkpoints < 5 {
		t.Error(checkpoints)
	}
}

// P23.1: if there is no room behind a checkpoint either, what the log says is answered, and nothing comes of it; a shorter one may go on.
func TestNoRoom(t *testing.T) {
	b := at(t, 0, 2, 12)
	n := 1
	for ; n < 100; n++ {
		a := asks.Order(1, n, "a 5, b 7, c 9, d 11", 0)
		if e := b.tell(a); e != api.OK {
			b.still("no room", api.ErrFull, func() ([]api.Sent, api.Errno) { return b.Ask(asks.Code(a)) })
			b.still("no room", api.ErrFull, func() ([]api.Sent, api.Errno) { return b.On(1, packet(5, 0, make([]byte, 2048))) })
			break
		}
	}
	if n < 4 || n == 100 {
		t.Fatal(n)
	}
	if e := b.Checkpoint(); e != api.ErrFull {
		t.Fatal(e)
	}
	alike(t, "no room for a checkpoint", b.Node, b.plain)
	ticks := 0
	for ; ticks < 100; ticks++ {
		if _, e := b.Tick(); e != api.OK {
			b.still("a tick", api.ErrFull, b.Tick)
			break
		}
		b.plain.tick()
	}
	if ticks == 100 {
		t.Error(ticks)
	}
}

// tell is a request that may be refused: the plain one is told what is not.
func (b *bench) tell(a api.Ask) api.Errno {
	_, e := b.Ask(asks.Code(a))
	if e == api.OK {
		b.plain.ask(a)
	}
	return e
}
