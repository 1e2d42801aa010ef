package region_test

import (
	"bytes"
	"maps"
	"math/rand"
	"slices"
	"testing"

	"entrepot/api"
	"entrepot/posts"
	"entrepot/region"
)

// model is a region reckoned plainly: of each good its numbers, of each order lists of goods.
type model struct {
	me, regions int
	levels      map[string]api.Level
	flows       map[string]api.Flow
	holds       map[int]*[3]map[string]int
	moves       map[int]api.Way
	stuck       [][]api.Item
}

func nothing(me, regions int) *model {
	return &model{me: me, regions: regions, levels: map[string]api.Level{}, flows: map[string]api.Flow{}, holds: map[int]*[3]map[string]int{}, moves: map[int]api.Way{}}
}

func counted(n int) bool {
	return n >= 0 && n <= most
}

func mayLevel(l api.Level) bool {
	return counted(l.Free) && counted(l.Held) && counted(l.Picked) && counted(l.Aside) && counted(l.Free+l.Held+l.Picked+l.Aside)
}

// each does something to the numbers of all goods of a list, if it may be done to all.
func (m *model) each(l []api.Item, takes func(api.Level) int, do func(*api.Level, *api.Flow, int)) api.Errno {
	levels, flows := maps.Clone(m.levels), maps.Clone(m.flows)
	e := api.OK
	// The answer is the first one of these that any good meets.
	worse := func(other api.Errno) {
		rank := []api.Errno{api.OK, api.ErrOver, api.ErrLess, api.ErrGood}
		if slices.Index(rank, other) > slices.Index(rank, e) {
			e = other
		}
	}
	for _, i := range l {
		level, known := levels[i.Good]
		flow := flows[i.Good]
		switch {
		case takes != nil && !known:
			worse(api.ErrGood)
		case takes != nil && takes(level) < i.N:
			worse(api.ErrLess)
		}
		do(&level, &flow, i.N)
		if e == api.OK && !mayLevel(level) {
			worse(api.ErrOver)
		}
		levels[i.Good], flows[i.Good] = level, flow
	}
	if e == api.OK && len(levels) > 64 {
		e = api.ErrFull
	}
	if e == api.OK {
		m.levels, m.flows = levels, flows
	}
	return e
}

func free0(l api.Level) int  { return l.Free }
func aside0(l api.Level) int { return l.Aside }

// do is the code, how many more there are, and what is to be sent.
func (m *model) do(a api.Ask) (api.Errno, int, []api.Post) {
	switch a.Kind {
	case api.AskReceive:
		return m.each(a.Items, nil, func(l *api.Level, f *api.Flow, n int) { l.Free += n; f.Received += n }), 0, nil
	case api.AskReturn:
		return m.each(a.Items, nil, func(l *api.Level, f *api.Flow, n int) { l.Aside += n; f.Returned += n }), 0, nil
	case api.AskRestock:
		return m.each(a.Items, aside0, func(l *api.Level, f *api.Flow, n int) { l.Aside -= n; l.Free += n }), 0, nil
	case api.AskScrap:
		return m.each(a.Items, aside0, func(l *api.Level, f *api.Flow, n int) { l.Aside -= n; f.Scrapped += n }), 0, nil
	case api.AskCount:
		level, known := m.levels[a.Good]
		more := a.N - level.Held - level.Free
		level.Free += more
		switch {
		case !known:
			return api.ErrGood, 0, nil
		case level.Free < 0:
			return api.ErrHeld, 0, nil
		case !mayLevel(level):
			return api.ErrOver, 0, nil
		}
		m.levels[a.Good] = level
		flow := m.flows[a.Good]
		flow.Counted += more
		m.flows[a.Good] = flow
		return api.OK, more, nil
	case api.AskMove:
		number := 64*a.Number + a.Client
		_, known := m.moves[number]
		switch {
		case a.To == m.me:
			return api.ErrArg, 0, nil
		case known:
			return api.ErrTwice, 0, nil
		case len(m.moves) == 256:
			return api.ErrFull, 0, nil
		}
		e := m.each(a.Items, free0, func(l *api.Level, f *api.Flow, n int) { l.Free -= n; f.Sent += n })
		if e != api.OK {
			return e, 0, nil
		}
		m.moves[number] = api.Way{Move: number, From: m.me, To: a.To, Items: a.Items}
		return api.OK, 0, []api.Post{post(a.To, api.Mail{Kind: api.MailGoods, Order: number, Items: a.Items})}
	}
	return api.ErrArg, 0, nil
}

// order is what is kept for one: held, picked, shipped.
func (m *model) order(n int) *[3]map[string]int {
	if m.holds[n] == nil {
		m.holds[n] = &[3]map[string]int{{}, {}, {}}
	}
	return m.holds[n]
}

// listed are goods in order.
func listed(m map[string]int) []api.Item {
	var l []api.Item
	for _, good := range slices.Sorted(maps.Keys(m)) {
		l = append(l, api.Item{Good: good, N: m[good]})
	}
	return l
}

func (m *model) take(order int, l []api.Item) []api.Item {
	h := m.order(order)
	if len(h[1]) > 0 || len(h[2]) > 0 {
		return nil
	}
	var took []api.Item
	for _, i := range l {
		level := m.levels[i.Good]
		if n := min(i.N, level.Free); n > 0 {
			level.Free -= n
			level.Held += n
			m.levels[i.Good] = level
			h[0][i.Good] += n
			took = append(took, api.Item{Good: i.Good, N: n})
		}
	}
	return took
}

// pass puts all of one list to another one (3: to nowhere).
func (m *model) pass(order, from, to int, do func(*api.Level, *api.Flow, int)) []api.Item {
	h := m.order(order)
	l := listed(h[from])
	for _, i := range l {
		level, flow := m.levels[i.Good], m.flows[i.Good]
		do(&level, &flow, i.N)
		m.levels[i.Good], m.flows[i.Good] = level, flow
		if to < 3 {
			h[to][i.Good] += i.N
		}
	}
	clear(h[from])
	return l
}

func (m *model) mail(x api.Mail, from int) []api.Post {
	if from < 0 || from >= m.regions {
		return nil
	}
	switch x.Kind {
	case api.MailTake:
		return []api.Post{post(from, api.Mail{Kind: api.MailTook, Order: x.Order, Items: m.take(x.Order, x.Items)})}
	case api.MailFree:
		if len(m.order(x.Order)[1]) == 0 {
			m.pass(x.Order, 0, 3, func(l *api.Level, f *api.Flow, n int) { l.Held -= n; l.Free += n })
		}
		return []api.Post{freed(from, x.Order)}
	case api.MailPick:
		l := m.pass(x.Order, 0, 1, func(l *api.Level, f *api.Flow, n int) { l.Held -= n; l.Picked += n })
		return []api.Post{post(from, api.Mail{Kind: api.MailPicked, Order: x.Order, Items: l})}
	case api.MailShip:
		l := m.pass(x.Order, 1, 2, func(l *api.Level, f *api.Flow, n int) { l.Picked -= n; f.Shipped += n })
		return []api.Post{post(from, api.Mail{Kind: api.MailShipped, Order: x.Order, Items: l})}
	}
	ahead := maps.Clone(m.levels)
	var l []api.Post
	switch x.Kind {
	case api.MailDo:
		e, n, sent := m.do(x.Ask)
		a := api.Answer{Client: x.Ask.Client, Number: x.Ask.Number, Code: e, N: n}
		l = append(sent, post(from, api.Mail{Kind: api.MailDone, Answer: a}))
	case api.MailGoods:
		m.stuck = append(m.stuck, x.Items)
	default:
		return nil
	}
	m.stuck = slices.DeleteFunc(m.stuck, func(l []api.Item) bool {
		return m.each(l, nil, func(l *api.Level, f *api.Flow, n int) { l.Free += n; f.Came += n }) == api.OK
	})
	for good, level := range m.levels {
		if level.Free > ahead[good].Free {
			return append(l, posts.News(m.regions)...)
		}
	}
	return l
}

// agrees looks whether a region is as the model, by all calls that change nothing.
func (m *model) agrees(t *testing.T, r *region.Region) {
	t.Helper()
	s := r.Shelf()
	if l := slices.Collect(s.Goods()); !slices.Equal(l, slices.Sorted(maps.Keys(m.levels))) {
		t.Fatal(l)
	}
	for good, level := range m.levels {
		if s.Level(good) != level || s.Flow(good) != m.flows[good] {
			t.Fatal(good, s.Level(good), s.Flow(good), level, m.flows[good])
		}
	}
	there := 0
	for order, h := range m.holds {
		if len(h[0])+len(h[1])+len(h[2]) > 0 {
			there++
		}
		if x := r.Hold(order); !sameHold(x, api.Hold{Order: order, Held: listed(h[0]), Picked: listed(h[1]), Shipped: listed(h[2])}) {
			t.Fatal(x, h)
		}
	}
	if n := len(slices.Collect(r.Orders())); n != there || !r.Sound() || r.Stuck() != len(m.stuck) {
		t.Fatal(n, there, r.Sound(), r.Stuck(), len(m.stuck))
	}
	var ways []api.Way
	for _, number := range slices.Sorted(maps.Keys(m.moves)) {
		ways = append(ways, m.moves[number])
	}
	var stuck [][]byte
	for _, l := range m.stuck {
		stuck = append(stuck, put(l))
	}
	if b := r.Save(); !bytes.Equal(b, joined(r.Pack(), moving(ways...), stuck...)) {
		t.Fatalf("%q", b)
	}
}

func anyList(r *rand.Rand, big bool) []api.Item {
	var l []api.Item
	for _, good := range []string{"a", "b", "c", "d"} {
		if r.Intn(3) == 0 {
			n := 1 + r.Intn(6)
			if big && r.Intn(4) == 0 {
				n = most/3 - 1 + r.Intn(3)
			}
			l = append(l, api.Item{Good: good, N: n})
		}
	}
	return l
}

// anyMail may be, by chance; mostly what has an effect.
func anyMail(r *rand.Rand, i int, big bool) api.Mail {
	order := 1 + r.Intn(12)
	l := anyList(r, big)
	switch r.Intn(9) {
	case 0, 1:
		return api.Mail{Kind: api.MailTake, Order: order, Items: l}
	case 2:
		return about([]int{api.MailFree, api.MailPick, api.MailShip}[r.Intn(3)], order, "")
	case 3:
		return api.Mail{Kind: api.MailGoods, Order: order, Items: l}
	case 4:
		return count(i+1, []string{"a", "b", "c", "d"}[r.Intn(4)], r.Intn(30))
	}
	kind := []int{api.AskReceive, api.AskReceive, api.AskReturn, api.AskRestock, api.AskScrap, api.AskMove, api.AskMove}[r.Intn(7)]
	// A number may come again.
	m := do(max(1, i+1-r.Intn(2)*r.Intn(60)), kind, "")
	m.Ask.Items = l
	if len(l) == 0 {
		m.Ask.Items = list("a 1")
	}
	if kind == api.AskReturn {
		m.Ask.Order = order
	}
	if kind == api.AskMove {
		m.Ask.Region, m.Ask.To = r.Intn(4), 4+r.Intn(4)
		if r.Intn(2) == 0 {
			m.Ask.Region, m.Ask.To = m.Ask.To, m.Ask.Region
		}
	}
	return m
}

// P22.1 to P22.3: all as the model has it, with little of all and with nearly too much, and across what is saved.
func TestRegionBesideAModel(t *testing.T) {
	r := rand.New(rand.NewSource(22))
	codes, stuck, told := map[api.Errno]int{}, 0, 0
	for round := range 60 {
		regions := 1 + round%8
		me := r.Intn(regions)
		x, _ := region.New(me, regions)
		m := nothing(me, regions)
		for i := range 400 {
			from := r.Intn(regions+1) - r.Intn(20)/19
			mail := anyMail(r, i, round%3 == 0)
			got, want := x.Mail(mail, from), m.mail(mail, from)
			if !posts.Same(got, want) {
				t.Fatalf("%d, %d: %+v from %d: posted %s\nnot %s", round, i, mail, from, posts.Text(got), posts.Text(want))
			}
			for _, p := range got {
				switch p.Mail.Kind {
				case api.MailDone:
					codes[p.Mail.Answer.Code]++
				case api.MailNews:
					told++
				}
			}
			stuck += x.Stuck()
			if i%10 == 0 {
				m.agrees(t, x)
			}
			if r.Intn(20) == 0 {
				again, e := region.Load(x.Save(), me, regions)
				if e != api.OK {
					t.Fatalf("%d, %d: %d, %q", round, i, e, x.Save())
				}
				x = again
			}
		}
		m.agrees(t, x)
	}
	for _, e := range []api.Errno{api.OK, api.ErrArg, api.ErrTwice, api.ErrOver, api.ErrLess, api.ErrHeld, api.ErrGood} {
		if codes[e] < 20 {
			t.Error("codes:", e, codes)
		}
	}
	if stuck < 2000 || told < 2000 {
		t.Error(stuck, told)
	}
}
