package node_test

import (
	"bytes"
	"fmt"
	"slices"
	"strconv"
	"testing"

	"entrepot/api"
	"entrepot/asks"
	"entrepot/cells"
	"entrepot/link"
	"entrepot/lists"
	"entrepot/mail"
	"entrepot/node"
	"entrepot/posts"
	"entrepot/sector"
	"entrepot/wal"
)

// nums puts numbers' cells behind bytes.
func nums(b []byte, l ...int) []byte {
	for _, n := range l {
		b = append(b, cells.Num(n)...)
	}
	return b
}

// text puts a text's cell behind bytes.
func text[B []byte | string](b []byte, s B) []byte {
	return append(nums(b, len(s)), s...)
}

// Codes of inputs, as the chapter tells them.

func tickCode() []byte                 { return []byte{1, 0, 0} }
func askCode(a api.Ask) []byte         { return text([]byte{2, 0}, asks.Code(a)) }
func onCode(from int, b []byte) []byte { return text(nums([]byte{3}, from), b) }

// partsOf are a snapshot's entries.
func partsOf(snapshot []byte, size int) [][]byte {
	var l [][]byte
	many := (len(snapshot) + size - 1) / size
	for i := range many {
		part := snapshot[i*size : min((i+1)*size, len(snapshot))]
		l = append(l, text(nums([]byte{4}, many-1-i), part))
	}
	return l
}

// Mail.

func mailAsk(a api.Ask) api.Mail { return api.Mail{Kind: api.MailAsk, Ask: a} }
func mailDo(a api.Ask) api.Mail  { return api.Mail{Kind: api.MailDo, Ask: a} }
func news() api.Mail             { return api.Mail{Kind: api.MailNews} }

func about(kind, order int, l string) api.Mail {
	return api.Mail{Kind: kind, Order: order, Items: lists.Of(l)}
}

func answering(kind, client, number int, e api.Errno, n int) api.Mail {
	return api.Mail{Kind: kind, Answer: api.Answer{Client: client, Number: number, Code: e, N: n}}
}

// body is a mail's code. A test whose mail may not be is wrong itself.
func body(m api.Mail) []byte {
	b, e := mail.Encode(m)
	if e != api.OK {
		panic(fmt.Sprint(m, e))
	}
	return b
}

func packet(seq, ack int, body []byte) []byte {
	return append(nums(nil, seq, ack, len(body)), body...)
}

// What is sent.

// sends is mail as a packet of that number, with that mark.
func sends(to, seq, ack int, m api.Mail) api.Sent {
	return api.Sent{To: to, Packet: packet(seq, ack, body(m))}
}

// marks tells a mark alone.
func marks(to, ack int) api.Sent {
	return api.Sent{To: to, Packet: packet(0, ack, nil)}
}

func tells(client, number int, e api.Errno, n int) api.Sent {
	return api.Sent{Client: true, To: client, Answer: api.Answer{Client: client, Number: number, Code: e, N: n}}
}

func sameSent(a, b api.Sent) bool {
	return a.Client == b.Client && a.To == b.To && bytes.Equal(a.Packet, b.Packet) && a.Answer == b.Answer
}

// written has a line of each.
func written(l []api.Sent) string {
	s := ""
	for _, x := range l {
		if x.Client {
			s += fmt.Sprintf("\n\tto client %d: %+v, %q", x.To, x.Answer, x.Packet)
			continue
		}
		p, _ := link.Decode(x.Packet)
		s += fmt.Sprintf("\n\tto region %d: %d, mark %d, %+v", x.To, p.Seq, p.Ack, x.Answer)
		if m, e := mail.Decode(p.Body); e == api.OK {
			s += posts.Text([]api.Post{{To: x.To, Mail: m}})
		} else {
			s += ": " + strconv.Quote(string(p.Body))
		}
	}
	return s
}

func device(t *testing.T, sectors int) *sector.Device {
	t.Helper()
	d, e := sector.New(sectors)
	if e != api.OK {
		t.Fatal(e)
	}
	return d
}

func open(t *testing.T, d *sector.Device, me, regions int) *node.Node {
	t.Helper()
	n, e := node.Open(d, me, regions)
	if e != api.OK || n == nil {
		t.Fatal("not opened:", e)
	}
	return n
}

// entries are what a device's log has. It is put down anew by that.
func entries(t *testing.T, d *sector.Device) [][]byte {
	t.Helper()
	log, e := wal.Open(d)
	if e != api.OK {
		t.Fatal(e)
	}
	var l [][]byte
	for _, b := range log.Entries() {
		l = append(l, b)
	}
	return l
}

// logged is a device whose log has these entries.
func logged(t *testing.T, sectors int, entries ...[]byte) *sector.Device {
	t.Helper()
	d := device(t, sectors)
	log, e := wal.Open(d)
	if e != api.OK {
		t.Fatal(e)
	}
	if e := log.Compact(entries); e != api.OK {
		t.Fatal(e)
	}
	return d
}

// bench has a node, a plain one, and a device on which another node is opened anew ahead of each input (or of each so many): all of them send the same, and have the same then.
type bench struct {
	*node.Node
	t       *testing.T
	me      int
	regions int
	other   *sector.Device
	twin    *node.Node
	every   int
	plain   *plain
}

func at(t *testing.T, me, regions, sectors int) *bench {
	t.Helper()
	b := &bench{Node: open(t, device(t, sectors), me, regions), t: t, me: me, regions: regions, other: device(t, sectors), every: 1, plain: newPlain(t, me, regions)}
	b.again()
	return b
}

// again opens the other one anew.
func (b *bench) again() *node.Node {
	b.t.Helper()
	if b.Len()%b.every == 0 || b.twin == nil {
		b.twin = open(b.t, b.other, b.me, b.regions)
		alike(b.t, "opened anew", b.twin, b.plain)
	}
	return b.twin
}

// did looks what was sent, if want is told: nil of who does not say.
func (b *bench) did(what string, got, other, plain []api.Sent, e, f api.Errno, twin *node.Node) {
	b.t.Helper()
	if e != api.OK || f != api.OK {
		b.t.Fatalf("%s: refused: %d, and %d of the one that was opened anew", what, e, f)
	}
	if !slices.EqualFunc(got, plain, sameSent) {
		b.t.Fatalf("%s: sent %s\nnot %s", what, written(got), written(plain))
	}
	if !slices.EqualFunc(other, plain, sameSent) {
		b.t.Fatalf("%s: the one that was opened anew sent %s\nnot %s", what, written(other), written(plain))
	}
	alike(b.t, what, b.Node, b.plain)
	alike(b.t, what+", of the one that was opened anew", twin, b.plain)
}

func (b *bench) wants(what string, got, want []api.Sent) {
	b.t.Helper()
	if !slices.EqualFunc(got, want, sameSent) {
		b.t.Fatalf("%s: sent %s\nnot %s", what, written(got), written(want))
	}
}

func (b *bench) tick(want ...api.Sent) {
	b.t.Helper()
	b.wants("Tick", b.ticked(), want)
}

func (b *bench) ticked() []api.Sent {
	b.t.Helper()
	twin := b.again()
	l, e := b.Tick()
	m, f := twin.Tick()
	b.did("Tick", l, m, b.plain.tick(), e, f, twin)
	return l
}

func (b *bench) ask(a api.Ask, want ...api.Sent) {
	b.t.Helper()
	b.wants(fmt.Sprintf("Ask %+v", a), b.asked(a), want)
}

func (b *bench) asked(a api.Ask) []api.Sent {
	b.t.Helper()
	twin := b.again()
	l, e := b.Ask(asks.Code(a))
	m, f := twin.Ask(asks.Code(a))
	b.did(fmt.Sprintf("Ask %+v", a), l, m, b.plain.ask(a), e, f, twin)
	return l
}

func (b *bench) on(from int, packet []byte, want ...api.Sent) {
	b.t.Helper()
	b.wants(fmt.Sprintf("On %d, %q", from, packet), b.came(from, packet), want)
}

// mail is a packet that brings it.
func (b *bench) mail(from, seq, ack int, m api.Mail, want ...api.Sent) {
	b.t.Helper()
	b.on(from, packet(seq, ack, body(m)), want...)
}

func (b *bench) came(from int, packet []byte) []api.Sent {
	b.t.Helper()
	twin := b.again()
	l, e := b.On(from, packet)
	m, f := twin.On(from, packet)
	b.did(fmt.Sprintf("On %d, %q", from, packet), l, m, b.plain.on(from, packet), e, f, twin)
	return l
}

// still looks whether something is refused so, with nothing that changes.
func (b *bench) still(what string, want api.Errno, call func() ([]api.Sent, api.Errno)) {
	b.t.Helper()
	used := b.Used()
	if l, e := call(); e != want || l != nil {
		b.t.Fatalf("%s: %d, not %d; %s", what, e, want, written(l))
	}
	if b.Used() != used {
		b.t.Fatalf("%s: %d entries, not %d", what, b.Used(), used)
	}
	alike(b.t, what, b.Node, b.plain)
}

// has looks how many mails are not known to have come, how many are late, and how many inputs there were.
func (b *bench) has(open, late, inputs int) {
	b.t.Helper()
	if b.Open() != open || b.Late() != late || b.Len() != inputs {
		b.t.Fatalf("%d, %d, %d, not %d, %d, %d", b.Open(), b.Late(), b.Len(), open, late, inputs)
	}
}

// alike looks whether a node is as a plain one, by all calls that change nothing.
func alike(t *testing.T, what string, n *node.Node, p *plain) {
	t.Helper()
	if n.Len() != p.told || n.Late() != p.lateMails() || n.Open() != p.open() {
		t.Fatalf("%s: %d inputs, %d late, %d open, not %d, %d, %d", what, n.Len(), n.Late(), n.Open(), p.told, p.lateMails(), p.open())
	}
	if !bytes.Equal(n.State(), p.state()) {
		t.Fatalf("%s: state %q, not %q", what, n.State(), p.state())
	}
	if !bytes.Equal(n.Desk().Save(), p.desk.Save()) || !bytes.Equal(n.Region().Save(), p.region.Save()) {
		t.Fatalf("%s: desk %q, region %q, not %q, %q", what, n.Desk().Save(), n.Region().Save(), p.desk.Save(), p.region.Save())
	}
}
