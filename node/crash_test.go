package node_test

import (
	"bytes"
	"math/rand"
	"slices"
	"testing"

	"entrepot/api"
	"entrepot/asks"
	"entrepot/node"
	"entrepot/sector"
)

// step is one thing that a node is told: an input, or a checkpoint.
type step struct {
	kind   int
	from   int
	ask    api.Ask
	packet []byte
}

const (
	ticks = iota
	asksFor
	brings
	checks
)

// steps are so many that a node of region 0 of two may be told, by chance.
func steps(r *rand.Rand, many int) []step {
	var l []step
	var made []int
	seq, number := 0, 0
	for range many {
		switch r.Intn(8) {
		case 0:
			l = append(l, step{kind: checks})
		case 1, 2:
			l = append(l, step{kind: ticks})
		case 3, 4:
			number++
			client := 2 * r.Intn(2)
			made = append(made, 64*number+client)
			l = append(l, step{kind: asksFor, ask: asks.Any(r.Intn, client, number, 2, made)})
		case 5:
			number++
			l = append(l, step{kind: asksFor, ask: asks.Any(r.Intn, 1, number, 2, nil)})
		default:
			seq++
			number++
			m := mailDo(asks.Any(r.Intn, 1, number, 1, nil))
			if r.Intn(2) == 0 {
				m = about([]int{api.MailTook, api.MailPicked, api.MailTake}[r.Intn(3)], 64*(1+r.Intn(number)), "a 1")
			}
			if m.Kind == api.MailDo && m.Ask.Kind == api.AskOrder {
				m = news()
			}
			l = append(l, step{kind: brings, from: 1, packet: packet(seq, r.Intn(seq+1), body(m))})
		}
	}
	return l
}

// tell answers what the node refuses.
func tell(n *node.Node, s step) ([]api.Sent, api.Errno) {
	switch s.kind {
	case ticks:
		return n.Tick()
	case asksFor:
		return n.Ask(asks.Code(s.ask))
	case brings:
		return n.On(s.from, s.packet)
	}
	return nil, n.Checkpoint()
}

func (p *plain) tell(s step) []api.Sent {
	switch s.kind {
	case ticks:
		return p.tick()
	case asksFor:
		return p.ask(s.ask)
	case brings:
		return p.on(s.from, s.packet)
	}
	return nil
}

// whole is all that a node has: what a snapshot of it says.
func whole(t *testing.T, n *node.Node, d *sector.Device) []byte {
	t.Helper()
	if e := n.Checkpoint(); e != api.OK {
		t.Fatal(e)
	}
	var b []byte
	for _, entry := range entries(t, d) {
		b = append(b, entry...)
	}
	return b
}

// snapshots are what a plain one has ahead of each step, and behind the last one.
func snapshots(t *testing.T, l []step) [][]byte {
	p := newPlain(t, 0, 2)
	all := [][]byte{slices.Concat(partsOf(p.snapshot(), 60000)...)}
	for _, s := range l {
		p.tell(s)
		all = append(all, slices.Concat(partsOf(p.snapshot(), 60000)...))
	}
	return all
}

// runs tells a node on a new device all, till the power goes behind so many calls; it answers how many were done.
func runs(t *testing.T, sectors int, l []step, calls int) (*sector.Device, int) {
	t.Helper()
	d := device(t, sectors)
	n := open(t, d, 0, 2)
	d.Stop(calls)
	for i, s := range l {
		before, inputs, used := n.State(), n.Len(), n.Used()
		sent, e := tell(n, s)
		if e == api.OK {
			continue
		}
		if !d.Off() || sent != nil {
			t.Fatal(i, e, sent)
		}
		// There may have been a checkpoint first, behind which a snapshot of one part is all.
		same := func() bool {
			return bytes.Equal(n.State(), before) && n.Len() == inputs && (n.Used() == used || n.Used() == 1)
		}
		if !same() {
			t.Fatal("something came of what was refused")
		}
		// Nor does anything come of what comes behind it.
		for _, s := range l {
			if sent, e := tell(n, s); sent != nil || e != api.ErrOff && e != api.ErrFull {
				t.Fatal(sent, e)
			}
		}
		if !same() {
			t.Fatal("something came of what was refused")
		}
		return d, i
	}
	return d, len(l)
}

// fork is another device with the same on it: sure, and dirty.
func fork(t *testing.T, sectors int, l []step, calls int, again *sector.Device) *sector.Device {
	t.Helper()
	d, _ := runs(t, sectors, l, calls)
	if !slices.Equal(slices.Collect(d.Dirty()), slices.Collect(again.Dirty())) {
		t.Fatal("not the same")
	}
	return d
}

// P23.3: the power goes behind each call; of what is unsure any part is kept. The node that is opened is as the one was that did the same, with the input in the middle of which it was, or without.
func TestCrashes(t *testing.T) {
	r := rand.New(rand.NewSource(23))
	with, without := 0, 0
	for _, sectors := range []int{26, 64} {
		l := steps(r, 34)
		all := snapshots(t, l)
		for calls := 0; ; calls++ {
			d, done := runs(t, sectors, l, calls)
			if done == len(l) {
				if calls < 60 {
					t.Error("calls:", calls)
				}
				break
			}
			dirty := slices.Collect(d.Dirty())
			for range 4 {
				d := fork(t, sectors, l, calls, d)
				var keep []int
				for _, i := range dirty {
					if r.Intn(2) == 0 {
						keep = append(keep, i)
					}
				}
				torn := append(dirty, -1)[r.Intn(len(dirty)+1)]
				d.Crash(keep, torn, r.Intn(65))
				n := open(t, d, 0, 2)
				got := whole(t, n, d)
				switch {
				case bytes.Equal(got, all[done]):
					without++
				case bytes.Equal(got, all[done+1]):
					with++
				default:
					t.Fatalf("%d calls, in the middle of %+v: %q\nneither %q\nnor %q", calls, l[done], got, all[done], all[done+1])
				}
			}
		}
	}
	if with < 10 || without < 100 {
		t.Error(with, without)
	}
}

// P23.3: the power goes behind each call while a node is opened, again and again: nothing comes of it.
func TestCrashesWhileItIsOpened(t *testing.T) {
	r := rand.New(rand.NewSource(24))
	l := steps(r, 30)
	all := snapshots(t, l)
	for range 60 {
		d, done := runs(t, 30, l, 1<<20)
		if done != len(l) {
			t.Fatal(done)
		}
		d.Crash(nil, -1, 0)
		for range 6 {
			d.Stop(r.Intn(40))
			n, e := node.Open(d, 0, 2)
			if e != api.OK && e != api.ErrOff || (n == nil) != (e != api.OK) {
				t.Fatal(e)
			}
			var keep []int
			for i := range d.Dirty() {
				if r.Intn(2) == 0 {
					keep = append(keep, i)
				}
			}
			d.Crash(keep, r.Intn(30), r.Intn(65))
		}
		if got := whole(t, open(t, d, 0, 2), d); !bytes.Equal(got, all[len(l)]) {
			t.Fatalf("%q, not %q", got, all[len(l)])
		}
	}
}

// P23.3: checkpoints change nothing but the log: what is told, and sent, is the same with them wherever they are, and without.
func TestCheckpointsChangeNothing(t *testing.T) {
	r := rand.New(rand.NewSource(25))
	for range 20 {
		l := steps(r, 60)
		d, e := device(t, 4096), device(t, 64)
		often, never := open(t, d, 0, 2), open(t, e, 0, 2)
		p := newPlain(t, 0, 2)
		for _, s := range l {
			if r.Intn(3) == 0 {
				often.Checkpoint()
			}
			want := p.tell(s)
			for _, n := range []*node.Node{often, never} {
				if s.kind == checks && n == never {
					continue
				}
				got, e := tell(n, s)
				if e != api.OK || !slices.EqualFunc(got, want, sameSent) {
					t.Fatalf("%d: %s\nnot %s", e, written(got), written(want))
				}
				alike(t, "with checkpoints, or without", n, p)
			}
		}
	}
}

// P23.3: once the power was gone, the log is at its end, though the power is there again: the node is opened anew.
func TestPowerComesBack(t *testing.T) {
	b := at(t, 0, 2, 64)
	d := device(t, 64)
	b.Node = open(t, d, 0, 2)
	b.ticked()
	d.Stop(1)
	for range 3 {
		b.still("without power", api.ErrOff, b.Tick)
		d.Stop(-1)
	}
}
