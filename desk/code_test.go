package desk_test

import (
	"bytes"
	"math"
	"math/rand"
	"slices"
	"testing"

	"entrepot/api"
	"entrepot/ask"
	"entrepot/backlog"
	"entrepot/cells"
	"entrepot/desk"
	"entrepot/ident"
	"entrepot/parcel"
	"entrepot/posts"
	"entrepot/saga"
)

// saved is what the chapter joins, part by part.
type saved struct {
	table   []byte
	backlog []byte
	parcels []byte
	sagas   [][]byte
	open    [][]byte
	waits   [][]byte
}

func (s saved) bytes() []byte {
	return cells.Join(s.table, s.backlog, s.parcels, cells.Join(s.sagas...), cells.Join(s.open...), cells.Join(s.waits...))
}

func nums(l ...int) []byte {
	var b []byte
	for _, n := range l {
		b = append(b, cells.Num(n)...)
	}
	return b
}

// asked is a request that is open, and from where it was asked last.
type asked struct {
	a    api.Ask
	from int
}

func (x asked) texts() [][]byte {
	b, e := ask.Encode(x.a)
	if e != api.OK {
		panic(x)
	}
	return [][]byte{nums(x.a.Client, x.a.Number, x.from), b}
}

func texts(l ...asked) [][]byte {
	var b [][]byte
	for _, x := range l {
		b = append(b, x.texts()...)
	}
	return b
}

// table has these open, and of client 1 the numbers 30 and 31 done.
func table(l ...api.Ask) []byte {
	t := ident.New()
	for _, a := range append([]api.Ask{low(1, 30, 1), low(1, 31, 1)}, l...) {
		t.Ask(a.Client, a.Number, ask.Body(a))
	}
	for n := 30; n < 32; n++ {
		t.Tell(api.Answer{Client: 1, Number: n, Code: api.ErrWait, N: -n})
	}
	return t.Pack()
}

// queue is a backlog, put down as its chapter tells it: what is out, and orders, negative if they are ready.
func queue(out int, orders ...int) []byte {
	b := nums(out, len(orders))
	for _, o := range orders {
		if o < 0 {
			b = append(b, nums(-o, 1)...)
		} else {
			b = append(b, nums(o, 0)...)
		}
	}
	return b
}

func code(s api.Saga) []byte {
	b, e := saga.Encode(s)
	if e != api.OK {
		panic(s)
	}
	return b
}

// begun is a saga of region 1 among 3, in whatever state.
func begun(order, state int, want string, got ...string) api.Saga {
	s := api.Saga{Order: order, First: 1, Regions: 3, Want: list(want), Waits: true, State: state, Asked: 1, Got: make([][]api.Item, 3)}
	for region, l := range got {
		s.Got[region] = list(l)
	}
	if state == api.SagaAsking {
		s.Pending = []int{1}
	}
	return s
}

func parcels(sagas ...api.Saga) []byte {
	p := parcel.New()
	for _, s := range sagas {
		p.Open(s.Order, s.Want)
	}
	return p.Pack()
}

// parts are sagas: 65 is held, 66, of another home, is asked for; 68 and 129 wait, 68 is tried; 196 is shipped.
func parts() []api.Saga {
	tried := begun(68, api.SagaAsking, "b 2")
	shipped := begun(196, api.SagaShipped, "c 3", "c 3")
	shipped.Asked = 3
	return []api.Saga{begun(65, api.SagaHeld, "a 5", "", "a 5"), begun(66, api.SagaAsking, "a 9"), tried, begun(129, api.SagaWaiting, "d 1"), shipped}
}

// requests are open: some wait for orders, others for regions.
func requests() []asked {
	return []asked{
		{cancels(1, 5, 66), 0},
		{counts(1, 200, 2, "a", 7), 2},
		{ships(4, 2, 66), 1},
		{returns(4, 3, 196, 2, "c 2"), 0},
		{cancels(4, 4, 66), 2},
		{orders(61, 1, "z 1", 0), 1},
		{low(61, 2, 1), 0},
	}
}

func asks(l []asked) []api.Ask {
	var asks []api.Ask
	for _, x := range l {
		asks = append(asks, x.a)
	}
	return asks
}

// rich is a desk of region 1 among 3 that is whole.
func rich() saved {
	l := parts()
	last := begun(number(61, 1), api.SagaAsking, "z 1")
	last.Waits = false
	all := append(l, last)
	slices.SortFunc(all, func(a, b api.Saga) int { return a.Order - b.Order })
	s := saved{table: table(asks(requests())...), backlog: queue(68, -129, 68), open: texts(requests()...)}
	p := parcel.New()
	for _, x := range all {
		s.sagas = append(s.sagas, code(x))
		p.Open(x.Order, x.Want)
	}
	p.Ship(196, 0, list("c 3"))
	p.Back(196, list("c 2"))
	s.parcels = p.Pack()
	s.waits = [][]byte{nums(66, 3, 4, 4, 1, 5, 4, 2), nums(number(61, 1), 1, 61, 1)}
	return s
}

func loads(t *testing.T, name string, s saved) *bench {
	t.Helper()
	d, e := desk.Load(s.bytes(), 1, 3)
	if e != api.OK || d == nil {
		t.Fatalf("%s: %d", name, e)
	}
	if b := d.Save(); !bytes.Equal(b, s.bytes()) {
		t.Fatalf("%s: %q, not %q", name, b, s.bytes())
	}
	return &bench{d, t, 1, 3}
}

func refuses(t *testing.T, name string, b []byte) {
	t.Helper()
	if d, e := desk.Load(b, 1, 3); d != nil || e != api.ErrCode {
		t.Errorf("%s: %v, %d", name, d, e)
	}
}

// P21.3: put down by hand, with what the layers below say of the parts.
func TestSave(t *testing.T) {
	b := at(t, 1, 3)
	known := ident.New()
	knows := func(a api.Ask) {
		known.Ask(a.Client, a.Number, ask.Body(a))
	}
	tells := func(client, n int, e api.Errno) {
		known.Tell(api.Answer{Client: client, Number: n, Code: e})
	}
	p, q := parcel.New(), backlog.New()
	s := saved{table: known.Pack(), backlog: q.Pack(), parcels: p.Pack()}
	saves := func() {
		t.Helper()
		s.table, s.backlog, s.parcels = known.Pack(), q.Pack(), p.Pack()
		if got := b.Save(); !bytes.Equal(got, s.bytes()) {
			t.Fatalf("%q, not %q", got, s.bytes())
		}
		if !bytes.Equal(b.Pack(), s.table) {
			t.Fatalf("%q, not %q", b.Pack(), s.table)
		}
	}
	saves()
	first, receive := orders(4, 2, "a 5, b 1", 1), goods(api.AskReceive, 4, 1, 2, "a 5")
	b.Ask(receive, 2)
	b.Ask(first, 0)
	knows(receive)
	knows(first)
	x := api.Saga{Order: 132, First: 1, Regions: 3, Want: list("a 5, b 1"), Waits: true, State: api.SagaAsking, Asked: 1, Got: make([][]api.Item, 3), Pending: []int{1}}
	s.sagas = [][]byte{code(x)}
	s.open = texts(asked{receive, 2}, asked{first, 0})
	s.waits = [][]byte{nums(132, 1, 4, 2)}
	p.Open(132, list("a 5, b 1"))
	saves()
	// Asked in another region, and cancelled: by the client of the order alone.
	cancel := cancels(4, 3, 132)
	b.Ask(first, 1)
	b.Ask(cancel, 0)
	knows(cancel)
	x.Cancelled = true
	s.sagas = [][]byte{code(x)}
	s.open = texts(asked{receive, 2}, asked{first, 1}, asked{cancel, 0})
	s.waits = [][]byte{nums(132, 2, 4, 2, 4, 3)}
	saves()
	// Another order, with a lower number, that will wait; and it is tried.
	low := orders(1, 1, "c 1", 1)
	b.Ask(low, 2)
	knows(low)
	p.Open(65, list("c 1"))
	for from := range 3 {
		b.Mail(took(65, ""), (from+1)%3)
	}
	tells(1, 1, api.ErrWait)
	q.Push(65)
	y := api.Saga{Order: 65, First: 1, Regions: 3, Want: list("c 1"), Waits: true, State: api.SagaWaiting, Asked: 3, Got: make([][]api.Item, 3)}
	s.sagas = [][]byte{code(y), code(x)}
	saves()
	b.Mail(news(), 0)
	q.News()
	q.Try()
	y.State, y.Asked, y.Pending = api.SagaAsking, 1, []int{1}
	s.sagas = [][]byte{code(y), code(x)}
	saves()
	b.Mail(took(132, ""), 1)
	tells(4, 2, api.ErrNone)
	tells(4, 3, api.OK)
	x.State, x.Pending = api.SagaGone, nil
	s.sagas = [][]byte{code(y), code(x)}
	s.open, s.waits = texts(asked{receive, 2}), nil
	saves()
	b.Mail(done(4, 1, api.OK, 0), 2)
	tells(4, 1, api.OK)
	s.open = nil
	saves()
}

// P21.3: of nothing.
func TestSaveOfNothing(t *testing.T) {
	none := []byte{1, 0, 2, 0, 0, 1, 0, 0, 0, 0}
	for regions := 1; regions <= 8; regions++ {
		for me := range regions {
			if b := at(t, me, regions).Save(); !bytes.Equal(b, none) {
				t.Errorf("%q", b)
			}
			if d, e := desk.Load(none, me, regions); e != api.OK || d == nil || !bytes.Equal(d.Save(), none) {
				t.Error(me, regions, e)
			}
		}
	}
}

// P21.3: ErrArg as New has it, ahead of ErrCode.
func TestLoadOfNoRegion(t *testing.T) {
	numbers := []int{math.MinInt, -1, 0, 1, 2, 7, 8, 9, math.MaxInt}
	for _, regions := range numbers {
		for _, me := range numbers {
			_, want := desk.New(me, regions)
			for _, b := range [][]byte{nil, rich().bytes(), {1, 0, 2, 0, 0, 1, 0, 0, 0, 0}} {
				d, e := desk.Load(b, me, regions)
				if want != api.OK && (d != nil || e != api.ErrArg) {
					t.Error(me, regions, e)
				}
			}
		}
	}
	for me := range 3 {
		for regions := me + 1; regions <= 8; regions++ {
			if _, e := desk.Load(rich().bytes(), me, regions); (e == api.OK) != (me == 1 && regions == 3) {
				t.Error(me, regions, e)
			}
		}
	}
}

// P21.3: what is loaded goes on: all that is said of it, and what waits for an order is told in the order in which it came.
func TestLoadGoesOn(t *testing.T) {
	b := loads(t, "rich", rich())
	b.count(7, 2)
	b.state(196, api.SagaShipped, "c 3", "c 2", 7, 2)
	b.ask(low(1, 30, 1), 2, answers(2, 1, 30, api.ErrWait, -30))
	b.ask(cancels(1, 5, 66), 2)
	b.mail(done(4, 3, api.ErrFull, 0), 2, tells(0, 4, 3, api.ErrFull))
	b.state(196, api.SagaShipped, "c 3", "", 6, 2)
	b.mail(done(61, 2, api.OK, 1), 2, answers(0, 61, 2, api.OK, 1))
	b.mail(took(68, "b 2"), 1, take(1, 129, "d 1"))
	b.state(68, api.SagaHeld, "", "", 5, 1)
	b.mail(took(66, ""), 1, take(2, 66, "a 9"))
	b.ask(cancels(2, 1, 66), 0)
	b.mail(took(66, ""), 2, take(0, 66, "a 9"))
	b.mail(took(66, ""), 0, posts.News(3)...)
	b.count(5, 2)
	b.mail(done(1, 200, api.OK, -3), 2, answers(2, 1, 200, api.OK, -3))
	b.mail(took(number(61, 1), "z 1"), 1, tells(1, 61, 1, api.OK))
	b.count(3, 2)
}

// P21.1: those that wait are told in the order in which they came, whatever their numbers, and others wait on.
func TestToldInOrder(t *testing.T) {
	l := []asked{
		{cancels(1, 2, 66), 2}, {cancels(1, 3, 66), 0}, {picks(1, 4, 66), 1}, {orders(4, 1, "q 1", 0), 1}, {cancels(4, 7, 66), 1}, {ships(4, 9, 66), 2}, {cancels(58, 1, 66), 0},
	}
	x := begun(66, api.SagaAsking, "a 9")
	x.Cancelled = true
	y := begun(68, api.SagaAsking, "q 1")
	s := saved{table: table(asks(l)...), backlog: queue(0), parcels: parcels(x, y), sagas: [][]byte{code(x), code(y)}, open: texts(l...)}
	names := [][2]int{{1, 2}, {1, 3}, {1, 4}, {4, 7}, {4, 9}, {58, 1}}
	r := rand.New(rand.NewSource(21))
	for range 50 {
		r.Shuffle(len(names), func(i, j int) { names[i], names[j] = names[j], names[i] })
		b := nums(66, len(names))
		var want []api.Post
		rest := nums(66, 2)
		for _, n := range names {
			b = append(b, nums(n[0], n[1])...)
			from := l[slices.IndexFunc(l, func(x asked) bool { return x.a.Client == n[0] && x.a.Number == n[1] })].from
			if n != [2]int{1, 4} && n != [2]int{4, 9} {
				want = append(want, tells(from, n[0], n[1], api.OK))
			} else {
				rest = append(rest, nums(n[0], n[1])...)
			}
		}
		s.waits = [][]byte{b, nums(68, 1, 4, 1)}
		d := loads(t, "waits", s)
		d.mail(took(66, ""), 1, append(want, posts.News(3)...)...)
		d.count(3, 0)
		// Those that wait on stand in their order still.
		if saved := d.Save(); !bytes.Contains(saved, cells.Join(rest)) {
			t.Fatalf("%q, without %q", saved, rest)
		}
	}
}

// P21.1: behind each state that is told the next one is tried.
func TestTriedBehindEachState(t *testing.T) {
	undoing := begun(66, api.SagaUndoing, "a 9", "a 1")
	undoing.Asked, undoing.Pending = 3, []int{0}
	refused := undoing
	refused.Waits = false
	gone := undoing
	gone.Cancelled = true
	picking := begun(66, api.SagaPicking, "a 9", "a 9")
	picking.Asked, picking.Pending = 3, []int{0}
	shipping := picking
	shipping.State = api.SagaShipping
	retry := take(1, 129, "d 1")
	for _, c := range []struct {
		name string
		x    api.Saga
		m    api.Mail
		from int
		want []api.Post
	}{
		{"held", begun(66, api.SagaAsking, "a 9"), took(66, "a 9"), 1, []api.Post{retry}},
		{"waiting", undoing, freed(66), 0, append(posts.News(3), retry)},
		{"refused", refused, freed(66), 0, append(posts.News(3), retry)},
		{"gone", gone, freed(66), 0, append(posts.News(3), retry)},
		{"picked", picking, picked(66, "a 9"), 0, []api.Post{retry}},
		{"shipped", shipping, shipped(66, "a 9"), 0, []api.Post{retry}},
	} {
		w := begun(129, api.SagaWaiting, "d 1")
		w.Asked = 3
		s := saved{table: table(), backlog: queue(0, -129), parcels: parcels(c.x, w), sagas: [][]byte{code(c.x), code(w)}}
		b := loads(t, c.name, s)
		b.mail(c.m, c.from, c.want...)
		if x, _ := b.Saga(129); x.State != api.SagaAsking {
			t.Error(c.name, x)
		}
		// One that is out keeps the others.
		s.backlog = queue(129, 129)
		b = loads(t, c.name, s)
		b.mail(c.m, c.from, c.want[:len(c.want)-1]...)
		// Nor is it kept from being tried itself, if it is ready.
		s.backlog = queue(0, -66)
		if c.name == "waiting" {
			loads(t, c.name, s).mail(c.m, c.from, take(1, 66, "a 9"))
		}
		// Where none is ready none is tried.
		s.backlog = queue(0, 129)
		b = loads(t, c.name, s)
		b.mail(c.m, c.from, c.want[:len(c.want)-1]...)
		// What is in the backlog itself is back, or no more there; then there is no news of it.
		s.backlog = queue(66, 66, -129)
		want, left := c.want, 1
		switch c.name {
		case "waiting":
			want, left = []api.Post{retry}, 2
		case "picked", "shipped":
			want, left = nil, 2
		}
		b = loads(t, c.name, s)
		b.mail(c.m, c.from, want...)
		b.count(0, left)
	}
}

// with changes one part of a desk that is whole.
func with(change func(s *saved)) saved {
	s := rich()
	change(&s)
	return s
}

// P21.3: parts that are none of their kind, too few, or too many.
func TestLoadRefusesParts(t *testing.T) {
	loads(t, "whole", rich())
	b := rich().bytes()
	for size := range b {
		refuses(t, "cut off", b[:size])
	}
	for _, more := range []string{"\x00", "\x01\x00", "\x01", "\x90", string(b)} {
		refuses(t, "more behind", append(slices.Clone(b), more...))
	}
	refuses(t, "nothing", nil)
	s := rich()
	six := [][]byte{s.table, s.backlog, s.parcels, cells.Join(s.sagas...), cells.Join(s.open...), cells.Join(s.waits...)}
	for i := range six {
		for j := range six {
			l := slices.Clone(six)
			l[i], l[j] = six[j], six[i]
			if i != j {
				refuses(t, "in another place", cells.Join(l...))
			}
		}
		l := slices.Clone(six)
		l[i] = []byte{0x90}
		refuses(t, "no code", cells.Join(l...))
		l[i] = append(slices.Clone(six[i]), 0)
		refuses(t, "more behind a part", cells.Join(l...))
		l[i] = six[i][:len(six[i])-1]
		refuses(t, "a part cut off", cells.Join(l...))
		l[i] = nil
		refuses(t, "a part of nothing", cells.Join(l...))
		refuses(t, "five parts", cells.Join(slices.Delete(slices.Clone(six), i, i+1)...))
		refuses(t, "seven parts", cells.Join(slices.Insert(slices.Clone(six), i, nil)...))
	}
}

// P21.3: sagas.
func TestLoadRefusesSagas(t *testing.T) {
	l := parts()
	first := func(change func(x *api.Saga)) saved {
		x := begun(65, api.SagaAsking, "a 5")
		change(&x)
		return with(func(s *saved) { s.sagas[0] = code(x) })
	}
	loads(t, "as it is", first(func(x *api.Saga) {}))
	for name, s := range map[string]saved{
		"First is another":    first(func(x *api.Saga) { x.First, x.Pending = 2, []int{2} }),
		"First is 0":          first(func(x *api.Saga) { x.First, x.Pending = 0, []int{0} }),
		"fewer regions":       first(func(x *api.Saga) { x.Regions, x.Got = 2, make([][]api.Item, 2) }),
		"more regions":        first(func(x *api.Saga) { x.Regions, x.Got = 4, make([][]api.Item, 4) }),
		"another Want":        first(func(x *api.Saga) { x.Want = list("a 6") }),
		"another good":        first(func(x *api.Saga) { x.Want = list("b 5") }),
		"more goods":          first(func(x *api.Saga) { x.Want = list("a 5, b 1") }),
		"another order":       first(func(x *api.Saga) { x.Order = 64 }),
		"the order of a next": first(func(x *api.Saga) { x.Order = 66 }),
		"they fall":           with(func(s *saved) { s.sagas[0], s.sagas[1] = s.sagas[1], s.sagas[0] }),
		"twice":               with(func(s *saved) { s.sagas = slices.Insert(s.sagas, 1, s.sagas[0]) }),
		"one is missing":      with(func(s *saved) { s.sagas = s.sagas[1:] }),
		"the last is missing": with(func(s *saved) { s.sagas = s.sagas[:len(s.sagas)-1] }),
		"one more":            with(func(s *saved) { s.sagas = append(s.sagas, code(begun(1<<40, api.SagaWaiting, "a 1"))) }),
		"no code":             with(func(s *saved) { s.sagas[2] = []byte{5} }),
		"an empty one":        with(func(s *saved) { s.sagas = append(s.sagas, nil) }),
		"may not be":          with(func(s *saved) { s.sagas[3] = slices.Concat(s.sagas[3], []byte{0}) }),
		"no sagas":            with(func(s *saved) { s.sagas = nil }),
	} {
		refuses(t, name, s.bytes())
	}
	refuses(t, "no parcels", with(func(s *saved) { s.parcels = parcels() }).bytes())
	refuses(t, "a parcel less", with(func(s *saved) { s.parcels = parcels(l...) }).bytes())
	refuses(t, "a parcel more", with(func(s *saved) {
		s.parcels = parcels(append(l, begun(number(61, 1), api.SagaAsking, "z 1"), begun(67, api.SagaAsking, "a 1"))...)
	}).bytes())
	refuses(t, "a parcel of another order", with(func(s *saved) {
		s.parcels = parcels(append(l[1:], begun(number(61, 1), api.SagaAsking, "z 1"), begun(67, api.SagaAsking, "a 5"))...)
	}).bytes())
}

// P21.3: parts that are none of their kind, of a desk of nothing.
func TestLoadRefusesPartsOfNothing(t *testing.T) {
	six := [][]byte{table(), queue(0), parcels(), nil, nil, nil}
	if _, e := desk.Load(cells.Join(six...), 1, 3); e != api.OK {
		t.Fatal(e)
	}
	for i := range six {
		for _, b := range [][]byte{{0x90}, {5}, {1}, {1, 0}, {0, 0, 0, 0}} {
			l := slices.Clone(six)
			l[i] = b
			refuses(t, "no code", cells.Join(l...))
		}
	}
	var sagas [][]byte
	for order := range 129 {
		sagas = append(sagas, code(begun(order+1, api.SagaWaiting, "a 1")))
	}
	six[3] = cells.Join(sagas...)
	refuses(t, "129 sagas, and no parcels", cells.Join(six...))
	six[3] = cells.Join(sagas[:1]...)
	refuses(t, "a saga, and no parcel", cells.Join(six...))
}

// P21.3: the greatest client and number, and the least order.
func TestLoadAtTheEdges(t *testing.T) {
	last := orders(63, api.MaxNumber, "a 1", 0)
	one := begun(1, api.SagaAsking, "a 1")
	most := begun(number(63, api.MaxNumber), api.SagaAsking, "a 1")
	for _, s := range []*api.Saga{&one, &most} {
		s.First, s.Regions, s.Pending, s.Got = 7, 8, []int{7}, make([][]api.Item, 8)
	}
	cancel := cancels(7, api.MaxNumber, 1)
	s := saved{table: table(cancel, last), backlog: queue(0), parcels: parcels(one, most), sagas: [][]byte{code(one), code(most)}}
	s.open = texts(asked{cancel, 0}, asked{last, 7})
	s.waits = [][]byte{nums(1, 1, 7, api.MaxNumber), nums(most.Order, 1, 63, api.MaxNumber)}
	d, e := desk.Load(s.bytes(), 7, 8)
	if e != api.OK || !bytes.Equal(d.Save(), s.bytes()) {
		t.Fatal(e)
	}
	b := &bench{d, t, 7, 8}
	b.mail(took(1, "a 1"), 7)
	b.mail(took(most.Order, "a 1"), 7, tells(7, 63, api.MaxNumber, api.OK))
	b.count(1, 0)
}

// P21.3, P21.1: as many as may be open wait for one order.
func TestLoadOfManyThatWait(t *testing.T) {
	x := begun(66, api.SagaAsking, "a 9")
	x.First, x.Regions, x.Pending, x.Got, x.Cancelled = 0, 1, []int{0}, make([][]api.Item, 1), true
	known := ident.New()
	s := saved{backlog: queue(0), parcels: parcels(x), sagas: [][]byte{code(x)}}
	names := []int{66, 64 * 128}
	for client := range 64 {
		for n := 1; n <= 128; n++ {
			a := cancels(client, n, 66)
			known.Ask(client, n, ask.Body(a))
			s.open = append(s.open, asked{a, 0}.texts()...)
			names = append(names, client, n)
		}
	}
	s.table, s.waits = known.Pack(), [][]byte{nums(names...)}
	d, e := desk.Load(s.bytes(), 0, 1)
	if e != api.OK || d.Open() != 64*128 || !bytes.Equal(d.Save(), s.bytes()) {
		t.Fatal(e)
	}
	l := d.Mail(took(66, ""), 0)
	if len(l) != 64*128+1 || d.Open() != 0 {
		t.Fatal(len(l), d.Open())
	}
	for i, p := range l[:64*128] {
		if !posts.Same([]api.Post{p}, []api.Post{tells(0, i/128, i%128+1, api.OK)}) {
			t.Fatal(i, p)
		}
	}
}

// P21.1: an order that there is already, at a desk whose table does not know of it, is not begun anew.
func TestOrderThatThereIs(t *testing.T) {
	x := begun(65, api.SagaHeld, "a 5", "", "a 5")
	b := loads(t, "one", saved{table: table(), backlog: queue(0), parcels: parcels(x), sagas: [][]byte{code(x)}})
	b.ask(orders(1, 1, "b 2", 0), 2, tells(2, 1, 1, api.ErrTwice))
	b.state(65, api.SagaHeld, "", "", 0, 0)
	b.ask(orders(1, 1, "b 2", 0), 0, tells(0, 1, 1, api.ErrTwice))
}

// P21.3: 128 sagas, and no more.
func TestLoadOfManySagas(t *testing.T) {
	var l []api.Saga
	for order := range 129 {
		l = append(l, begun(order+1, api.SagaWaiting, "a 1"))
	}
	for _, many := range []int{127, 128, 129} {
		s := saved{table: table(), backlog: queue(0), parcels: parcels(l[:many]...)}
		for _, x := range l[:many] {
			s.sagas = append(s.sagas, code(x))
		}
		if many > 128 {
			refuses(t, "129", s.bytes())
			continue
		}
		b := loads(t, "many", s)
		e := api.ErrFull
		if many == 127 {
			b.ask(orders(1, 9, "a 1", 0), 0, take(1, number(1, 9), "a 1"))
		} else {
			b.ask(orders(1, 9, "a 1", 0), 0, tells(0, 1, 9, e))
		}
	}
}

// P21.3: the backlog.
func TestLoadRefusesBacklogs(t *testing.T) {
	for name, b := range map[string][]byte{
		"no such order":  queue(0, 67),
		"one of them":    queue(68, -129, 68, 1),
		"ready":          queue(0, -129, -67),
		"twice":          queue(0, 129, 129),
		"out, not there": queue(129),
		"out and ready":  queue(129, -129),
	} {
		refuses(t, name, with(func(s *saved) { s.backlog = b }).bytes())
	}
	loads(t, "orders in whatever state", with(func(s *saved) { s.backlog = queue(196, 196, -65, 66, -129) }))
	loads(t, "none", with(func(s *saved) { s.backlog = queue(0) }))
}

// openWith is a desk whose requests are changed, and what waits too; the table has them open.
func openWith(change func(l []asked) []asked, waits ...[]byte) saved {
	return with(func(s *saved) {
		l := change(requests())
		s.table, s.open = table(asks(l)...), texts(l...)
		if waits != nil {
			s.waits = waits
		}
	})
}

// P21.3: open requests.
func TestLoadRefusesOpenRequests(t *testing.T) {
	for name, s := range map[string]saved{
		"they fall":                with(func(s *saved) { s.open = slices.Concat(s.open[2:4], s.open[:2], s.open[4:]) }),
		"clients fall":             with(func(s *saved) { s.open = slices.Concat(s.open[10:], s.open[:10]) }),
		"twice":                    with(func(s *saved) { s.open = slices.Concat(s.open[:2], s.open) }),
		"the last one twice":       with(func(s *saved) { s.open = slices.Concat(s.open, s.open[12:]) }),
		"one is missing":           with(func(s *saved) { s.open = slices.Concat(s.open[:2], s.open[4:]) }),
		"the last is missing":      with(func(s *saved) { s.open = s.open[:12] }),
		"none":                     with(func(s *saved) { s.open = nil }),
		"half of one is missing":   with(func(s *saved) { s.open = s.open[:13] }),
		"half of one":              with(func(s *saved) { s.open = append(s.open, s.open[0]) }),
		"halves change places":     with(func(s *saved) { s.open[2], s.open[3] = s.open[3], s.open[2] }),
		"not in the table":         with(func(s *saved) { s.table = table(asks(requests()[:6])...) }),
		"done in the table":        with(func(s *saved) { s.table = tableTold(61, 2) }),
		"more in the table":        with(func(s *saved) { s.table = table(append(asks(requests()), low(61, 3, 1))...) }),
		"more ahead in the table":  with(func(s *saved) { s.table = table(append(asks(requests()), low(0, 3, 1))...) }),
		"another body":             with(func(s *saved) { copy(s.open[2:], asked{counts(1, 200, 2, "a", 8), 2}.texts()) }),
		"another body to wait for": with(func(s *saved) { copy(s.open[8:], asked{picks(4, 4, 66), 2}.texts()) }),
		"another number":           with(func(s *saved) { copy(s.open[2:], asked{counts(1, 201, 2, "a", 7), 2}.texts()) }),
		"another client":           with(func(s *saved) { copy(s.open[2:], asked{counts(4, 200, 2, "a", 7), 2}.texts()) }),
		"one told, another meant":  with(func(s *saved) { s.open[2] = nums(1, 201, 2) }),
		"a client told, another":   with(func(s *saved) { s.open[2] = nums(4, 200, 2) }),
		"no region":                with(func(s *saved) { s.open[2] = nums(1, 200, 3) }),
		"no region at all":         with(func(s *saved) { s.open[2] = nums(1, 200, 8) }),
		"a region below 0":         with(func(s *saved) { s.open[2] = nums(1, 200, -1) }),
		"another number's code":    with(func(s *saved) { s.open[3] = asked{counts(1, 201, 2, "a", 7), 2}.texts()[1] }),
		"another client's code":    with(func(s *saved) { s.open[3] = asked{counts(4, 200, 2, "a", 7), 2}.texts()[1] }),
		"two cells":                with(func(s *saved) { s.open[2] = nums(1, 200) }),
		"four cells":               with(func(s *saved) { s.open[2] = nums(1, 200, 2, 0) }),
		"no cells":                 with(func(s *saved) { s.open[2] = nil }),
		"no request":               with(func(s *saved) { s.open[3] = nil }),
		"more than a request":      with(func(s *saved) { s.open[3] = append(slices.Clone(s.open[3]), 0) }),
		"a request that may not":   with(func(s *saved) { s.open[3] = append(nums(1, 200), ask.Body(low(1, 200, 1))[:3]...) }),
		"another home":             openWith(func(l []asked) []asked { return append(l, asked{low(62, 1, 1), 0}) }),
		"another home ahead":       openWith(func(l []asked) []asked { return append([]asked{{low(0, 1, 1), 0}}, l...) }),
		"another home between": openWith(func(l []asked) []asked {
			return slices.Insert(l, 2, asked{counts(2, 1, 0, "a", 1), 0})
		}),
	} {
		refuses(t, name, s.bytes())
	}
	for region := range 3 {
		loads(t, "asked there last", with(func(s *saved) { s.open[2] = nums(1, 200, region) }))
	}
	loads(t, "one more", openWith(func(l []asked) []asked { return append(l, asked{low(61, api.MaxNumber, 1), 0}) }))
	loads(t, "one more ahead", openWith(func(l []asked) []asked { return append([]asked{{low(1, 1, 1), 0}}, l...) }))
}

// tableTold is rich's table, but that a request is done.
func tableTold(client, n int) []byte {
	t, _ := ident.Unpack(table(asks(requests())...))
	t.Tell(api.Answer{Client: client, Number: n})
	return t.Pack()
}

// P21.3: requests that wait for an order.
func TestLoadRefusesWaits(t *testing.T) {
	last := nums(number(61, 1), 1, 61, 1)
	for name, l := range map[string][][]byte{
		"none":                      {},
		"one order is missing":      {last},
		"the last is missing":       {nums(66, 3, 4, 4, 1, 5, 4, 2)},
		"one is missing":            {nums(66, 2, 4, 4, 1, 5), last},
		"one more, not open":        {nums(66, 4, 4, 4, 1, 5, 4, 2, 4, 1), last},
		"one more, for a region":    {nums(66, 4, 4, 4, 1, 5, 4, 2, 1, 200), last},
		"one more, a return":        {nums(66, 3, 4, 4, 1, 5, 4, 2), nums(196, 1, 4, 3), last},
		"one more, an AskLow":       {nums(66, 4, 4, 4, 1, 5, 4, 2, 61, 2), last},
		"one more, of another":      {nums(66, 4, 4, 4, 1, 5, 4, 2, 61, 1), last},
		"twice":                     {nums(66, 4, 4, 4, 1, 5, 4, 2, 4, 2), last},
		"twice for one":             {nums(66, 3, 4, 4, 1, 5, 1, 5), last},
		"twice, for two orders":     {nums(65, 1, 1, 5), nums(66, 3, 4, 4, 1, 5, 4, 2), last},
		"for another order":         {nums(65, 1, 1, 5), nums(66, 2, 4, 4, 4, 2), last},
		"all for another order":     {nums(65, 3, 4, 4, 1, 5, 4, 2), last},
		"an order that there's not": {nums(66, 3, 4, 4, 1, 5, 4, 2), nums(67, 1, 61, 1)},
		"orders that fall":          {last, nums(66, 3, 4, 4, 1, 5, 4, 2)},
		"an order twice":            {nums(66, 2, 4, 4, 1, 5), nums(66, 1, 4, 2), last},
		"an order for nothing":      {nums(65, 0), nums(66, 3, 4, 4, 1, 5, 4, 2), last},
		"an order of 0":             {nums(0, 0), nums(66, 3, 4, 4, 1, 5, 4, 2), last},
		"fewer than told":           {nums(66, 4, 4, 4, 1, 5, 4, 2), last},
		"more than told":            {nums(66, 2, 4, 4, 1, 5, 4, 2), last},
		"a number cut off":          {nums(66, 3, 4, 4, 1, 5, 4), last},
		"many told":                 {nums(66, 1<<40, 4, 4), last},
		"below 0":                   {nums(66, -1), last},
		"an empty text":             {nil, nums(66, 3, 4, 4, 1, 5, 4, 2), last},
		"a client of none":          {nums(66, 3, 64, 4, 1, 5, 4, 2), last},
		"number 0":                  {nums(66, 3, 4, 0, 1, 5, 4, 2), last},
	} {
		refuses(t, name, with(func(s *saved) { s.waits = l }).bytes())
	}
	for _, l := range [][]byte{nums(66, 3, 1, 5, 4, 2, 4, 4), nums(66, 3, 4, 2, 4, 4, 1, 5)} {
		loads(t, "in another order", with(func(s *saved) { s.waits = [][]byte{l, last} }))
	}
	// For orders that there are not: an AskOrder, and those that name one.
	for _, a := range []api.Ask{orders(61, 3, "z 1", 0), cancels(61, 3, 67), picks(61, 3, 67), ships(61, 3, 67)} {
		more := func(l []asked) []asked { return append(l, asked{a, 0}) }
		refuses(t, "waits for none", openWith(more).bytes())
		order := 67
		if a.Kind == api.AskOrder {
			order = number(61, 3)
		}
		waits := [][]byte{nums(66, 3, 4, 4, 1, 5, 4, 2), nums(order, 1, 61, 3), last}
		slices.SortFunc(waits, func(a, b []byte) int {
			x, _, _ := cells.First(a)
			y, _, _ := cells.First(b)
			return x - y
		})
		refuses(t, "waits for one that there is not", openWith(more, waits...).bytes())
	}
	// Nor may those be missing that name one that there is.
	for _, a := range []api.Ask{cancels(61, 3, 65), picks(61, 3, 65), ships(61, 3, 65)} {
		more := func(l []asked) []asked { return append(l, asked{a, 0}) }
		refuses(t, "does not wait", openWith(more).bytes())
		loads(t, "waits", openWith(more, nums(65, 1, 61, 3), nums(66, 3, 4, 4, 1, 5, 4, 2), last))
	}
}

// P21.3: what is loaded is saved to the same bytes, whatever bytes they are.
func TestLoadOfChangedBytes(t *testing.T) {
	r := rand.New(rand.NewSource(213))
	whole := rich().bytes()
	taken := 0
	for range 60000 {
		b := slices.Clone(whole)
		for range 1 + r.Intn(2) {
			b[r.Intn(len(b))] = byte(r.Intn(256))
		}
		d, e := desk.Load(b, 1, 3)
		if e == api.ErrCode && d == nil {
			continue
		}
		taken++
		if e != api.OK || !bytes.Equal(d.Save(), b) {
			t.Fatalf("%q: %d, %q", b, e, d.Save())
		}
	}
	if taken < 500 {
		t.Error("taken:", taken)
	}
}

// R3: what is loaded keeps nothing of the bytes.
func TestLoadKeepsNothing(t *testing.T) {
	b := rich().bytes()
	d, _ := desk.Load(b, 1, 3)
	clear(b)
	if !bytes.Equal(d.Save(), rich().bytes()) {
		t.Error("kept")
	}
}

// saved is what the model would save, put together from all that ever came.
func (m *model) saved() []byte {
	t := ident.New()
	var s saved
	var open []asked
	for client := range api.MaxClients {
		t.Low(client, m.mark(client))
	}
	came := slices.Clone(m.came)
	slices.SortFunc(came, func(a, b *story) int {
		return a.a.Client<<33 + a.a.Number - (b.a.Client<<33 + b.a.Number)
	})
	for _, x := range came {
		t.Ask(x.a.Client, x.a.Number, ask.Body(x.a))
		if x.done {
			t.Tell(x.answer)
		} else {
			open = append(open, asked{x.a, x.from})
		}
	}
	s.table, s.open = t.Pack(), texts(open...)
	var waiting []int
	for _, o := range m.queue {
		if o.ready {
			waiting = append(waiting, -o.Order)
		} else {
			waiting = append(waiting, o.Order)
		}
	}
	out := 0
	if m.out != nil {
		out = m.out.Order
	}
	s.backlog = queue(out, waiting...)
	orders := slices.Clone(m.orders)
	slices.SortFunc(orders, func(a, b *order) int { return a.Order - b.Order })
	c := cells.New().Num(len(orders))
	for _, o := range orders {
		s.sagas = append(s.sagas, code(o.Saga))
		c.Num(o.Order)
		for _, l := range [][]api.Item{o.Want, listed(o.shipped), listed(o.back)} {
			c.Num(len(l))
			for _, i := range l {
				c.Text(i.Good).Num(i.N)
			}
		}
		c.Num(len(o.from))
		for region := range 8 {
			if o.from[region] {
				c.Num(region)
			}
		}
		var names []int
		for _, x := range m.came {
			if x.waitsFor(o.Order) {
				names = append(names, x.a.Client, x.a.Number)
			}
		}
		if len(names) > 0 {
			s.waits = append(s.waits, nums(append([]int{o.Order, len(names) / 2}, names...)...))
		}
	}
	s.parcels, _ = c.Done()
	return s.bytes()
}
