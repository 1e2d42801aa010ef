package link_test

import (
	"bytes"
	"slices"
	"testing"

	"entrepot/api"
	"entrepot/cells"
	"entrepot/link"
)

const most = 1 << 40

// line is of a body that is not known to have come, as the chapter's code has it.
type line struct {
	text      string
	tries, at int
}

// state is what an end has.
type state struct {
	sent, mark int
	open       []line
}

// code is put down as the chapter tells it, of whatever state.
func code(s state) []byte {
	b := nums(nil, s.sent, s.mark, len(s.open))
	for _, l := range s.open {
		b = nums(append(nums(b, len(l.text)), l.text...), l.tries, l.at)
	}
	return b
}

func nums(b []byte, l ...int) []byte {
	for _, n := range l {
		b = append(b, cells.Num(n)...)
	}
	return b
}

// packetCode is put down as the chapter tells it, of whatever packet.
func packetCode(p api.Packet) []byte {
	return append(nums(nil, p.Seq, p.Ack, len(p.Body)), p.Body...)
}

func packet(seq, ack int, body string) api.Packet {
	return api.Packet{Seq: seq, Ack: ack, Body: []byte(body)}
}

func same(a, b api.Packet) bool {
	return a.Seq == b.Seq && a.Ack == b.Ack && bytes.Equal(a.Body, b.Body)
}

func zero(p api.Packet) bool {
	return p.Seq == 0 && p.Ack == 0 && p.Body == nil
}

// of is an end that was unpacked.
func of(t *testing.T, s state) *link.End {
	t.Helper()
	e, err := link.Unpack(code(s))
	if err != api.OK || e == nil {
		t.Fatal(s.sent, s.mark, len(s.open), err)
	}
	return e
}

// has looks whether an end has just this, by all calls that change nothing.
func has(t *testing.T, name string, e *link.End, want state) {
	t.Helper()
	if b := e.Pack(); !bytes.Equal(b, code(want)) {
		t.Errorf("%s: %q, not %q", name, b, code(want))
	}
	if e.Open() != len(want.open) || e.Mark() != want.mark || e.Sent() != want.sent {
		t.Errorf("%s: Open %d, Mark %d, Sent %d, not %d, %d, %d", name, e.Open(), e.Mark(), e.Sent(), len(want.open), want.mark, want.sent)
	}
}

func send(t *testing.T, e *link.End, body string, now int, want api.Packet) {
	t.Helper()
	if p, err := e.Send([]byte(body), now); err != api.OK || !same(p, want) {
		t.Errorf("Send(%q, %d): %v, %d, not %v", body, now, p, err, want)
	}
}

func refused(t *testing.T, e *link.End, body string, now int, want api.Errno) {
	t.Helper()
	if p, err := e.Send([]byte(body), now); err != want || !zero(p) {
		t.Errorf("Send of %d bytes: %v, %d, not %d", len(body), p, err, want)
	}
}

func tick(t *testing.T, e *link.End, now int, want ...api.Packet) {
	t.Helper()
	if l := e.Tick(now); !slices.EqualFunc(l, want, same) {
		t.Errorf("Tick(%d): %v, not %v", now, l, want)
	}
}

// on looks at a packet that brings a body.
func on(t *testing.T, e *link.End, p api.Packet, body string, back api.Packet) {
	t.Helper()
	if b, is, q := e.On(p); !is || string(b) != body || !same(q, back) || q.Body != nil {
		t.Errorf("On(%v): %q, %v, %v, not %q, %v", p, b, is, q, body, back)
	}
}

// off looks at one that brings none.
func off(t *testing.T, e *link.End, p api.Packet, back api.Packet) {
	t.Helper()
	if b, is, q := e.On(p); is || b != nil || !same(q, back) || q.Body != nil {
		t.Errorf("On(%v): %q, %v, %v, not %v", p, b, is, q, back)
	}
}

// model is an end reckoned plainly: all that was ever sent stays, and is looked through.
type model struct {
	all   []line
	acked int
	mark  int
}

// waits are those behind 0, 1, 2 .. tries.
func waits(tries int) int {
	return []int{2, 4, 8, 16}[min(tries, 3)]
}

func (m *model) state() state {
	return state{sent: len(m.all), mark: m.mark, open: m.all[m.acked:]}
}

func (m *model) send(body string, now int) (api.Packet, api.Errno) {
	if len(body) > 2048 {
		return api.Packet{}, api.ErrLong
	}
	if len(m.all)-m.acked == 64 {
		return api.Packet{}, api.ErrFull
	}
	m.all = append(m.all, line{body, 1, now + waits(0)})
	return packet(len(m.all), m.mark, body), api.OK
}

func (m *model) tick(now int) []api.Packet {
	var l []api.Packet
	for i := m.acked; i < len(m.all); i++ {
		if m.all[i].at <= now {
			m.all[i].at = now + waits(m.all[i].tries)
			m.all[i].tries++
			l = append(l, packet(i+1, m.mark, m.all[i].text))
		}
	}
	return l
}

func (m *model) on(p api.Packet) (string, bool, api.Packet) {
	if p.Seq < 0 || p.Ack < 0 || p.Seq > most || p.Ack > most || len(p.Body) > 2048 || p.Seq == 0 && len(p.Body) > 0 {
		return "", false, api.Packet{}
	}
	m.acked = max(m.acked, min(p.Ack, len(m.all)))
	if p.Seq == m.mark+1 {
		m.mark++
		return string(p.Body), true, packet(0, m.mark, "")
	}
	if p.Seq == 0 {
		return "", false, api.Packet{}
	}
	return "", false, packet(0, m.mark, "")
}
