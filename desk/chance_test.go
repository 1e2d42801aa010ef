package desk_test

import (
	"bytes"
	"math/rand"
	"slices"
	"testing"

	"entrepot/api"
	"entrepot/ask"
	"entrepot/desk"
	"entrepot/lists"
	"entrepot/posts"
	"entrepot/saga"
)

// model is a desk reckoned plainly: all requests that ever came stand in one list, in the order in which they came, and are searched.
type model struct {
	me, regions int
	marks       map[int]int
	came        []*story
	orders      []*order
	queue       []*order
	out         *order
	posts       []api.Post
}

// story is of a request.
type story struct {
	a      api.Ask
	from   int
	done   bool
	answer api.Answer
}

// order has its saga, and what of it was shipped, from where, and what is back.
type order struct {
	api.Saga
	ready   bool
	shipped map[string]int
	back    map[string]int
	from    map[int]bool
}

func (m *model) post(to int, mail api.Mail) {
	m.posts = append(m.posts, api.Post{To: to, Mail: mail})
}

func (m *model) find(client, n int) *story {
	for _, s := range m.came {
		if s.a.Client == client && s.a.Number == n {
			return s
		}
	}
	return nil
}

func (m *model) order(number int) *order {
	for _, o := range m.orders {
		if o.Order == number {
			return o
		}
	}
	return nil
}

func (m *model) mark(client int) int {
	return max(1, m.marks[client])
}

func (m *model) ask(a api.Ask, from int) {
	if !ask.May(a) || from < 0 || from >= m.regions || a.Client%m.regions != m.me {
		return
	}
	refuse := func(e api.Errno) {
		m.posts = append(m.posts, tells(from, a.Client, a.Number, e))
	}
	known := 0
	for _, s := range m.came {
		if s.a.Client == a.Client {
			known++
		}
	}
	s := m.find(a.Client, a.Number)
	switch {
	case a.Number < m.mark(a.Client):
		refuse(api.ErrStale)
	case s != nil && !ask.Same(s.a, a):
		refuse(api.ErrClash)
	case s != nil && s.done:
		m.posts = append(m.posts, answers(from, a.Client, a.Number, s.answer.Code, s.answer.N))
	case s != nil:
		s.from = from
	case known >= 128:
		refuse(api.ErrFull)
	default:
		s = &story{a: a, from: from}
		m.came = append(m.came, s)
		m.do(s)
	}
}

func (m *model) tell(s *story, e api.Errno, n int) {
	s.done = true
	s.answer = api.Answer{Client: s.a.Client, Number: s.a.Number, Code: e, N: n}
	m.posts = append(m.posts, answers(s.from, s.a.Client, s.a.Number, e, n))
}

// event is what a client's request makes of an order.
func event(kind int) int {
	return map[int]int{api.AskCancel: api.EventCancel, api.AskPick: api.EventPick, api.AskShip: api.EventShip}[kind]
}

func (m *model) do(s *story) {
	a := s.a
	o := m.order(a.Order)
	mine := o != nil && a.Order%64 == a.Client
	switch a.Kind {
	case api.AskOrder:
		if len(m.orders) == 128 {
			m.tell(s, api.ErrFull, 0)
			return
		}
		o := &order{shipped: map[string]int{}, back: map[string]int{}, from: map[int]bool{}}
		m.orders = append(m.orders, o)
		x, steps, _ := saga.Begin(64*a.Number+a.Client, m.me, m.regions, a.Items, a.N == 1)
		m.become(o, x, steps)
	case api.AskCancel, api.AskPick, api.AskShip:
		if !mine {
			m.tell(s, api.ErrNone, 0)
			return
		}
		x, steps, e := saga.Next(o.Saga, api.Event{Kind: event(a.Kind)})
		if e != api.OK {
			m.tell(s, e, 0)
			return
		}
		m.become(o, x, steps)
	case api.AskReturn:
		switch {
		case !mine:
			m.tell(s, api.ErrNone, 0)
		case a.Region >= m.regions:
			m.tell(s, api.ErrArg, 0)
		case !o.returns(a.Items):
			m.tell(s, api.ErrOver, 0)
		default:
			m.post(a.Region, api.Mail{Kind: api.MailDo, Ask: a})
		}
	case api.AskLow:
		m.tell(s, m.low(a.Client, a.N), 0)
	default:
		if a.Region >= m.regions || a.To >= m.regions {
			m.tell(s, api.ErrArg, 0)
		} else {
			m.post(a.Region, api.Mail{Kind: api.MailDo, Ask: a})
		}
	}
}

func (o *order) returns(l []api.Item) bool {
	for _, i := range l {
		if o.back[i.Good]+i.N > o.shipped[i.Good] {
			return false
		}
	}
	for _, i := range l {
		o.back[i.Good] += i.N
	}
	return true
}

func (m *model) low(client, mark int) api.Errno {
	for _, s := range m.came {
		if s.a.Client == client && s.a.Number < mark && !s.done {
			return api.ErrState
		}
	}
	m.came = slices.DeleteFunc(m.came, func(s *story) bool { return s.a.Client == client && s.a.Number < mark })
	m.marks[client] = max(m.mark(client), mark)
	return api.OK
}

func (m *model) become(o *order, x api.Saga, steps []api.Step) {
	o.Saga = x
	for _, step := range steps {
		if step.Kind == api.StepTold {
			m.told(o)
		} else {
			m.post(step.Region, api.Mail{Kind: step.Kind, Order: o.Order, Items: step.Items})
		}
	}
}

// says is what a request is told at a state; -1, if nothing.
func says(kind, state int) api.Errno {
	table := map[[2]int]api.Errno{
		{api.AskOrder, api.SagaHeld}: api.OK, {api.AskOrder, api.SagaWaiting}: api.ErrWait,
		{api.AskOrder, api.SagaRefused}: api.ErrLess, {api.AskOrder, api.SagaGone}: api.ErrNone,
		{api.AskCancel, api.SagaGone}: api.OK, {api.AskPick, api.SagaPicked}: api.OK, {api.AskShip, api.SagaShipped}: api.OK,
	}
	if e, is := table[[2]int{kind, state}]; is {
		return e
	}
	return -1
}

func (s *story) waitsFor(number int) bool {
	return !s.done && (s.a.Kind == api.AskOrder && 64*s.a.Number+s.a.Client == number || event(s.a.Kind) != 0 && s.a.Order == number)
}

func (m *model) told(o *order) {
	for _, s := range m.came {
		if e := says(s.a.Kind, o.State); s.waitsFor(o.Order) && e >= 0 {
			m.tell(s, e, 0)
		}
	}
	there := slices.Contains(m.queue, o)
	switch o.State {
	case api.SagaWaiting:
		if !there {
			o.ready = false
			m.queue = append(m.queue, o)
			m.posts = append(m.posts, posts.News(m.regions)...)
		}
	case api.SagaHeld, api.SagaRefused, api.SagaGone:
		m.queue = slices.DeleteFunc(m.queue, func(other *order) bool { return other == o })
		if o.State != api.SagaHeld {
			m.posts = append(m.posts, posts.News(m.regions)...)
		}
	default:
		m.try()
		return
	}
	if m.out == o {
		m.out = nil
	}
	m.try()
}

func (m *model) try() {
	if m.out != nil {
		return
	}
	for _, o := range m.queue {
		if o.ready {
			o.ready = false
			m.out = o
			x, steps, _ := saga.Next(o.Saga, api.Event{Kind: api.EventRetry})
			m.become(o, x, steps)
			return
		}
	}
}

func (m *model) mail(x api.Mail, from int) {
	if from < 0 || from >= m.regions {
		return
	}
	kinds := map[int]int{api.MailTook: api.EventTook, api.MailFreed: api.EventFreed, api.MailPicked: api.EventPicked, api.MailShipped: api.EventShipped}
	switch x.Kind {
	case api.MailTook, api.MailFreed, api.MailPicked, api.MailShipped:
		o := m.order(x.Order)
		if o == nil {
			return
		}
		next, steps, e := saga.Next(o.Saga, api.Event{Kind: kinds[x.Kind], Region: from, Items: x.Items})
		if e != api.OK {
			return
		}
		if x.Kind == api.MailShipped {
			o.from[from] = true
			for _, i := range x.Items {
				o.shipped[i.Good] += i.N
			}
		}
		m.become(o, next, steps)
	case api.MailDone:
		s := m.find(x.Answer.Client, x.Answer.Number)
		if s == nil || s.done {
			return
		}
		if o := m.order(s.a.Order); s.a.Kind == api.AskReturn && x.Answer.Code != api.OK {
			for _, i := range s.a.Items {
				o.back[i.Good] -= i.N
			}
		}
		m.tell(s, x.Answer.Code, x.Answer.N)
	case api.MailNews:
		for _, o := range m.queue {
			o.ready = o != m.out
		}
		m.try()
	}
}

// listed are goods in order.
func listed(m map[string]int) []api.Item {
	var l []api.Item
	for _, good := range []string{"a", "b", "c", "d"} {
		if m[good] > 0 {
			l = append(l, api.Item{Good: good, N: m[good]})
		}
	}
	return l
}

// agrees looks whether a desk is as the model, by all calls that change nothing, and by what it saves.
func (m *model) agrees(t *testing.T, d *desk.Desk) {
	t.Helper()
	open := 0
	for _, s := range m.came {
		if !s.done {
			open++
		}
	}
	if d.Open() != open || d.Waiting() != len(m.queue) {
		t.Fatalf("%d open, %d wait, not %d and %d", d.Open(), d.Waiting(), open, len(m.queue))
	}
	n := 0
	for s := range d.Sagas() {
		n++
		o := m.order(s.Order)
		p, is := d.Parcel(s.Order)
		if o == nil || !is || !saga.Same(s, o.Saga) {
			t.Fatal(s, p)
		}
		if !sameParcel(p, api.Parcel{Order: s.Order, Want: s.Want, Shipped: listed(o.shipped), Back: listed(o.back)}) {
			t.Fatal(p, o)
		}
	}
	if n != len(m.orders) {
		t.Fatal(n, len(m.orders))
	}
	if b := d.Save(); !bytes.Equal(b, m.saved()) {
		t.Fatalf("%q, not %q", b, m.saved())
	}
}

// net is a desk, a model beside it, and what regions were asked and did not answer yet.
type net struct {
	t     *testing.T
	r     *rand.Rand
	d     *desk.Desk
	m     *model
	next  map[int]int
	asked []api.Post
	met   map[api.Errno]int
}

func (n *net) told(what any, from int, got []api.Post) {
	n.t.Helper()
	if !posts.Same(got, n.m.posts) {
		n.t.Fatalf("%+v from %d: posted %s\nnot %s", what, from, posts.Text(got), posts.Text(n.m.posts))
	}
	for _, p := range got {
		if p.Mail.Kind == api.MailAnswer {
			n.met[p.Mail.Answer.Code]++
		} else {
			n.asked = append(n.asked, p)
		}
	}
	n.m.posts = nil
}

func (n *net) ask(a api.Ask, from int) {
	n.t.Helper()
	n.m.ask(a, from)
	n.told(a, from, n.d.Ask(a, from))
}

func (n *net) mail(m api.Mail, from int) {
	n.t.Helper()
	n.m.mail(m, from)
	n.told(m, from, n.d.Mail(m, from))
}

// some is part of a list.
func (n *net) some(l []api.Item) []api.Item {
	var part []api.Item
	for _, i := range l {
		if many := n.r.Intn(i.N + 2); many > 0 {
			part = append(part, api.Item{Good: i.Good, N: min(many, i.N)})
		}
	}
	return part
}

// reply answers one of those that were asked, whichever; a saga knows what it is picked and shipped of.
func (n *net) reply() {
	n.t.Helper()
	if len(n.asked) == 0 {
		return
	}
	i := n.r.Intn(len(n.asked))
	p := n.asked[i]
	n.asked = slices.Delete(n.asked, i, i+1)
	m := p.Mail
	switch m.Kind {
	case api.MailTake:
		part := n.some(m.Items)
		switch n.r.Intn(6) {
		case 0, 1:
			part = m.Items
		case 2, 3:
			part = nil
		}
		n.mail(api.Mail{Kind: api.MailTook, Order: m.Order, Items: part}, p.To)
	case api.MailFree:
		n.mail(freed(m.Order), p.To)
	case api.MailPick, api.MailShip:
		s, _ := n.d.Saga(m.Order)
		kind := map[int]int{api.MailPick: api.MailPicked, api.MailShip: api.MailShipped}[m.Kind]
		n.mail(api.Mail{Kind: kind, Order: m.Order, Items: s.Got[p.To]}, p.To)
	case api.MailDo:
		e := []api.Errno{api.OK, api.OK, api.ErrLess, 1000}[n.r.Intn(4)]
		n.mail(done(m.Ask.Client, m.Ask.Number, e, n.r.Intn(9)-4), p.To)
	case api.MailNews:
		n.mail(m, n.r.Intn(n.m.regions))
	}
}

func (n *net) anyList() []api.Item {
	return n.some(list([]string{"a 2, b 2, c 2, d 2", "a 5", "b 1, c 9", "d 3"}[n.r.Intn(4)]))
}

// anyOrder is mostly one that there is.
func (n *net) anyOrder() int {
	if len(n.m.orders) == 0 || n.r.Intn(20) == 0 {
		return 1 + n.r.Intn(1000)
	}
	return n.m.orders[n.r.Intn(len(n.m.orders))].Order
}

// wants asks something that may be, by chance; mostly what is new.
func (n *net) wants(clients []int) {
	n.t.Helper()
	client := clients[n.r.Intn(len(clients))]
	kind := []int{1, 1, 1, 1, 2, 2, 3, 3, 3, 4, 4, 4, 4, 5, 5, 5, 6, 7, 8, 9, 10, 11}[n.r.Intn(22)]
	a := api.Ask{Client: client, Kind: kind, Number: n.next[client] + 1}
	if letters := ask.Has(kind); letters != "" {
		for _, letter := range letters {
			switch letter {
			case 'o':
				a.Order = n.anyOrder()
				if n.r.Intn(12) > 0 {
					a.Client = a.Order % 64
					a.Number = n.next[a.Client] + 1
				}
			case 'r':
				a.Region = n.r.Intn(n.m.regions + n.r.Intn(8)/7)
			case 't':
				a.To = (a.Region + 1) % 8
			case 'n':
				a.N = n.r.Intn(2)
				if kind == api.AskLow {
					a.N = 1 + max(0, a.Number-n.r.Intn(60))
				}
			case 'g':
				a.Good = "a"
			case 'i':
				a.Items = n.anyList()
			}
		}
	}
	if n.r.Intn(10) == 0 {
		a.Number = 1 + n.r.Intn(a.Number)
	} else {
		n.next[a.Client] = a.Number
	}
	n.ask(a, n.r.Intn(n.m.regions))
}

// noise is mail that nobody asked for, and requests asked again.
func (n *net) noise() {
	n.t.Helper()
	switch n.r.Intn(3) {
	case 0:
		kind := []int{api.MailTook, api.MailFreed, api.MailPicked, api.MailShipped}[n.r.Intn(4)]
		m := api.Mail{Kind: kind, Order: n.anyOrder()}
		if kind != api.MailFreed {
			m.Items = n.anyList()
		}
		n.mail(m, n.r.Intn(n.m.regions+1)-n.r.Intn(2))
	case 1:
		if len(n.m.came) > 0 {
			a := n.m.came[n.r.Intn(len(n.m.came))].a
			n.ask(a, n.r.Intn(n.m.regions))
		}
	default:
		if n.r.Intn(10) == 0 && len(n.m.came) > 0 {
			a := n.m.came[n.r.Intn(len(n.m.came))].a
			n.mail(done(a.Client, a.Number, api.ErrGood, 3), n.r.Intn(n.m.regions))
		} else {
			n.mail(news(), n.r.Intn(n.m.regions))
		}
	}
}

// P21.1 to P21.3: all as the model has it, with regions that answer in any order, and across what is saved.
func TestDeskBesideAModel(t *testing.T) {
	r := rand.New(rand.NewSource(2123))
	met, states := map[api.Errno]int{}, map[int]int{}
	for round := range 80 {
		regions := 1 + round%4
		// Of each four rounds regions answer quickly, and then slowly.
		slow := 2 + round/4%2*8
		me := r.Intn(regions)
		d, _ := desk.New(me, regions)
		n := &net{t: t, r: r, d: d, m: &model{me: me, regions: regions, marks: map[int]int{}}, next: map[int]int{}, met: met}
		clients := []int{me, me + regions, me + 2*regions, me, me, me + regions, (me + 1) % 64}
		// Some go on till there is no more room.
		for i := range 600 + round/76*1400 {
			switch k := r.Intn(20); {
			case k < slow:
				n.wants(clients)
			case k < 17:
				n.reply()
			default:
				n.noise()
			}
			if i%20 == 0 {
				n.m.agrees(t, n.d)
				for _, o := range n.m.orders {
					states[o.State]++
				}
			}
			if r.Intn(15) == 0 {
				again, e := desk.Load(n.d.Save(), me, regions)
				if e != api.OK {
					t.Fatalf("%d, %d: %d, %q", round, i, e, n.d.Save())
				}
				n.d = again
			}
		}
		n.m.agrees(t, n.d)
	}
	for _, e := range []api.Errno{api.OK, api.ErrArg, api.ErrFull, api.ErrNone, api.ErrTwice, api.ErrOver, api.ErrLess, api.ErrState, api.ErrClash, api.ErrStale, api.ErrWait, 1000} {
		if met[e] < 20 {
			t.Error("met:", e, met)
		}
	}
	for state := api.SagaAsking; state <= api.SagaShipped; state++ {
		if states[state] < 100 {
			t.Error("states:", state, states)
		}
	}
}

// P21.2: what waits holds nothing, but while it is tried; each number is answered once, and again with the same.
func TestDeskKeepsItsWord(t *testing.T) {
	r := rand.New(rand.NewSource(212))
	tried := 0
	for range 40 {
		d, _ := desk.New(0, 2)
		n := &net{t: t, r: r, d: d, m: &model{me: 0, regions: 2, marks: map[int]int{}}, next: map[int]int{}, met: map[api.Errno]int{}}
		first := map[[2]int]api.Answer{}
		for i := 1; i <= 60; i++ {
			a := api.Ask{Client: 2 * r.Intn(2), Number: i, Kind: api.AskOrder, N: 1, Items: lists.Of("a 2, b 2")}
			n.ask(a, 0)
			for range r.Intn(8) {
				n.reply()
			}
			for _, s := range n.m.came {
				if s.done {
					key := [2]int{s.a.Client, s.a.Number}
					l := d.Ask(s.a, 1)
					if len(l) != 1 || l[0].To != 1 || l[0].Mail.Kind != api.MailAnswer {
						t.Fatal(posts.Text(l))
					}
					if _, is := first[key]; !is {
						first[key] = s.answer
					}
					if l[0].Mail.Answer != first[key] {
						t.Fatal(l[0], first[key])
					}
				}
			}
			busy := 0
			for s := range d.Sagas() {
				if o := n.m.order(s.Order); slices.Contains(n.m.queue, o) {
					if s.State != api.SagaWaiting {
						busy++
					} else if len(saga.Holders(s)) != 0 {
						t.Fatal(s)
					}
				}
			}
			if busy > 1 {
				t.Fatal(busy)
			}
			tried += busy
		}
	}
	if tried < 200 {
		t.Error(tried)
	}
}
