package node_test

import (
	"math/rand"
	"slices"
	"testing"

	"entrepot/api"
	"entrepot/ask"
	"entrepot/asks"
)

// letter is a packet on its way.
type letter struct {
	from   int
	to     int
	packet []byte
}

// net is some nodes, and what is on its way between them. It answers how much was late at most.
type net struct {
	r       *rand.Rand
	benches []*bench
	way     []letter
	answers map[int]api.Answer
	asked   []api.Ask
	made    []int
	late    int
}

func among(t *testing.T, r *rand.Rand, regions, sectors int) *net {
	w := &net{r: r, answers: map[int]api.Answer{}}
	for me := range regions {
		b := at(t, me, regions, sectors)
		b.every = 7
		w.benches = append(w.benches, b)
	}
	return w
}

func (w *net) sent(from int, l []api.Sent) {
	for _, s := range l {
		if s.Client {
			w.answers[s.Answer.Number] = s.Answer
		} else {
			w.way = append(w.way, letter{from, s.To, s.Packet})
		}
	}
	w.late = max(w.late, w.benches[from].Late())
}

func (w *net) tick() {
	me := w.r.Intn(len(w.benches))
	w.sent(me, w.benches[me].ticked())
}

// ask is told any region, whoever asks; now and then what was asked already.
func (w *net) ask() {
	me, number := w.r.Intn(len(w.benches)), len(w.asked)+1
	a := asks.Any(w.r.Intn, w.r.Intn(8), number, len(w.benches), w.made)
	if o := ask.Order(a); o > 0 {
		w.made = append(w.made, o)
	}
	w.asked = append(w.asked, a)
	if w.r.Intn(5) == 0 {
		a = w.asked[w.r.Intn(number)]
	}
	if w.benches[me].Late() <= 32 {
		w.sent(me, w.benches[me].asked(a))
	}
}

// come has any letter come, be lost, or come twice.
func (w *net) come(often int) {
	if len(w.way) == 0 {
		return
	}
	i := w.r.Intn(len(w.way))
	if w.r.Intn(3) > 0 {
		i = 0
	}
	l := w.way[i]
	if w.r.Intn(often) > 0 {
		w.way = slices.Delete(w.way, i, i+1)
	}
	if w.r.Intn(often) > 0 {
		w.sent(l.to, w.benches[l.to].came(l.from, l.packet))
	}
}

// rest has all come, though some is lost, till nothing is on its way and no request is open.
func (w *net) rest(t *testing.T) {
	t.Helper()
	for range 400 {
		open := 0
		for me, b := range w.benches {
			w.sent(me, b.ticked())
			open += b.Open() + b.Desk().Open()
		}
		if open == 0 && len(w.way) == 0 {
			return
		}
		for range 3 * len(w.way) {
			w.come(20)
		}
	}
	t.Fatal("no rest")
}

// P23.1, P23.2: nodes that tell one another, over a net that loses, repeats and mixes up, are as the plain ones; so is each one that is opened anew now and then.
func TestNodesByChance(t *testing.T) {
	r := rand.New(rand.NewSource(231))
	answers := map[api.Errno]int{}
	for round := range 16 {
		w := among(t, r, 1+round%4, []int{64, 128, 512}[round%3])
		for range 150 {
			switch r.Intn(6) {
			case 0:
				w.tick()
			case 1, 2:
				w.ask()
			default:
				w.come(4)
			}
		}
		w.rest(t)
		for _, a := range w.answers {
			answers[a.Code]++
		}
	}
	for _, e := range []api.Errno{api.OK, api.ErrWait, api.ErrLess, api.ErrNone, api.ErrState, api.ErrGood} {
		if answers[e] < 10 {
			t.Error(answers)
		}
	}
}

// P23.1, P23.2: so are those whose links are full for long.
func TestFullLinksByChance(t *testing.T) {
	r := rand.New(rand.NewSource(232))
	late := 0
	for range 4 {
		w := among(t, r, 3, 700)
		for range 6 {
			for range 110 {
				w.ask()
			}
			w.tick()
			for range r.Intn(120) {
				w.come(6)
			}
		}
		late = max(late, w.late)
	}
	if late < 20 {
		t.Error(late)
	}
}
