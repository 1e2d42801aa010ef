package link_test

import (
	"math/rand"
	"strconv"
	"testing"

	"entrepot/api"
	"entrepot/link"
)

// net is two ends, and what is on its way to each, as bytes.
type net struct {
	t    *testing.T
	r    *rand.Rand
	ends [2]*link.End
	way  [2][][]byte
	sent [2]int
	came [2]int
	now  int
}

func newNet(t *testing.T, seed int64) *net {
	return &net{t: t, r: rand.New(rand.NewSource(seed)), ends: [2]*link.End{link.New(), link.New()}}
}

// put lays a packet of one end on the way to the other, if it is one.
func (n *net) put(from int, p api.Packet) {
	if p.Seq == 0 && p.Ack == 0 {
		return
	}
	b, e := link.Encode(p)
	if e != api.OK {
		n.t.Fatal(p, e)
	}
	n.way[1-from] = append(n.way[1-from], b)
}

// body says whose it is, and which one, so that what comes can be told; every seventh is empty.
func body(from, i int) string {
	if i%7 == 0 {
		return ""
	}
	return strconv.Itoa(from) + " " + strconv.Itoa(i)
}

func (n *net) send(from int) {
	p, e := n.ends[from].Send([]byte(body(from, n.sent[from]+1)), n.now)
	if e == api.ErrFull {
		return
	}
	n.sent[from]++
	if e != api.OK || p.Seq != n.sent[from] {
		n.t.Fatal(p, e)
	}
	n.put(from, p)
}

func (n *net) tick(from int) {
	for _, p := range n.ends[from].Tick(n.now) {
		n.put(from, p)
	}
}

// deliver lets the i-th letter come, and looks whether its body is the next one.
func (n *net) deliver(to, i int) {
	p, e := link.Decode(n.way[to][i])
	if e != api.OK {
		n.t.Fatal(e)
	}
	b, is, back := n.ends[to].On(p)
	if is {
		n.came[to]++
		if string(b) != body(1-to, n.came[to]) || n.came[to] > n.sent[1-to] {
			n.t.Fatalf("%q came as number %d to %d", b, n.came[to], to)
		}
	}
	if n.ends[to].Mark() != n.came[to] {
		n.t.Fatal(n.ends[to].Mark(), n.came[to])
	}
	n.put(to, back)
}

func (n *net) lose(to, i int) {
	n.way[to] = append(n.way[to][:i:i], n.way[to][i+1:]...)
}

// anew lets an end begin again as the one that was packed.
func (n *net) anew(i int) {
	e, err := link.Unpack(n.ends[i].Pack())
	if err != api.OK {
		n.t.Fatal(err)
	}
	n.ends[i] = e
}

// harm does something by chance: letters come in any order, again and again, or never.
func (n *net) harm() {
	who := n.r.Intn(2)
	n.now += n.r.Intn(2)
	what := n.r.Intn(10)
	if len(n.way[who]) == 0 && what > 3 {
		what %= 4
	}
	switch what {
	case 0, 1:
		n.send(who)
	case 2:
		n.tick(who)
	case 3:
		n.anew(who)
	case 4:
		n.deliver(who, n.r.Intn(len(n.way[who])))
	case 5:
		n.lose(who, n.r.Intn(len(n.way[who])))
	case 6:
		// The oldest, and it is gone.
		n.deliver(who, 0)
		n.lose(who, 0)
	default:
		i := n.r.Intn(len(n.way[who]))
		n.deliver(who, i)
		n.lose(who, i)
	}
}

// P12.4: bodies in order, each once, whatever is lost, repeated, or mixed up.
func TestBodiesComeInOrderOnce(t *testing.T) {
	came := 0
	for seed := range int64(60) {
		n := newNet(t, seed)
		for range 2000 {
			n.harm()
		}
		came += n.came[0] + n.came[1]
	}
	if came < 2000 {
		t.Error("came:", came)
	}
}

// P12.4: if what is told comes now and then, all come, and are known to have come.
func TestAllBodiesCome(t *testing.T) {
	for seed := range int64(40) {
		n := newNet(t, seed)
		for range 500 {
			n.harm()
		}
		for round := 0; n.ends[0].Open()+n.ends[1].Open() > 0; round++ {
			if round == 5000 {
				t.Fatal("not all came:", n.came, n.sent)
			}
			n.now++
			for who := range 2 {
				n.tick(who)
				// Most is lost: now and then something comes.
				for len(n.way[who]) > 0 {
					i := n.r.Intn(len(n.way[who]))
					if n.r.Intn(4) == 0 {
						n.deliver(who, i)
					}
					n.lose(who, i)
				}
			}
		}
		if n.came[0] != n.sent[1] || n.came[1] != n.sent[0] {
			t.Error(n.came, n.sent)
		}
	}
}

// P12.4: of a net that harms nothing, each body is told once, and its mark goes back once.
func TestGoodNet(t *testing.T) {
	n := newNet(t, 1)
	for i := range 300 {
		n.send(i % 2)
		n.now++
		n.tick(0)
		n.tick(1)
		for who := range 2 {
			to := (i + 1 + who) % 2
			if len(n.way[to]) != 1 {
				t.Fatal(i, len(n.way[to]))
			}
			n.deliver(to, 0)
			n.lose(to, 0)
		}
		if len(n.way[0])+len(n.way[1]) > 0 || n.ends[0].Open()+n.ends[1].Open() > 0 {
			t.Fatal(i)
		}
	}
	if n.came != [2]int{150, 150} {
		t.Error(n.came)
	}
}

// P12.4: a body that was lost holds up those behind it, which come as they are tried again.
func TestWhatIsLostHoldsUp(t *testing.T) {
	a, b := link.New(), link.New()
	one, _ := a.Send([]byte("one"), 0)
	for i := 2; i <= 64; i++ {
		p, _ := a.Send([]byte(strconv.Itoa(i)), 1)
		off(t, b, p, api.Packet{})
	}
	// Tried again by rising numbers: all come, each is told by its own mark.
	l := a.Tick(3)
	if len(l) != 64 || !same(l[0], one) {
		t.Fatal(len(l))
	}
	for i, p := range l {
		on(t, b, p, string(p.Body), packet(0, i+1, ""))
	}
	off(t, b, one, packet(0, 64, ""))
	off(t, a, packet(0, 64, ""), api.Packet{})
	has(t, "a", a, state{sent: 64})
	has(t, "b", b, state{mark: 64})
}
