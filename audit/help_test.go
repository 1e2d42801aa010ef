package audit_test

import (
	"slices"
	"testing"

	"entrepot/api"
	"entrepot/ask"
	"entrepot/audit"
	"entrepot/items"
	"entrepot/lists"
	"entrepot/mail"
	"entrepot/model"
	"entrepot/saga"
	"entrepot/stock"
	"entrepot/world"
)

// bench is a world in which each client's home is told, so that most mail is within one region.
type bench struct {
	*world.World
	t *testing.T
}

func begin(t *testing.T, regions, sectors int) *bench {
	t.Helper()
	w, e := world.New(api.World{Regions: regions, Sectors: sectors, Clients: 6})
	if e != api.OK {
		t.Fatal(e)
	}
	return &bench{w, t}
}

func (b *bench) does(a api.Act) {
	b.t.Helper()
	if e := b.Do(a); e != api.OK {
		b.t.Fatalf("%+v: %d", a, e)
	}
}

func (b *bench) at(kind, region int) {
	b.t.Helper()
	b.does(api.Act{Kind: kind, A: region, Torn: -1})
}

func (b *bench) crash(region int) { b.t.Helper(); b.at(api.ActCrash, region) }
func (b *bench) start(region int) { b.t.Helper(); b.at(api.ActStart, region) }

// tells a request its client's home.
func (b *bench) tells(a api.Ask) {
	b.t.Helper()
	b.does(api.Act{Kind: api.ActAsk, A: ask.Home(a.Client, b.Regions()), Ask: a})
}

// rest has rounds till all is quiet: no more than are told to be enough.
func (b *bench) rest() {
	b.t.Helper()
	for range audit.Bound(b.Regions(), b.sagas()) {
		if audit.Quiet(b.World) {
			return
		}
		b.does(api.Act{Kind: api.ActRound})
	}
	if !audit.Quiet(b.World) {
		b.t.Fatal("no rest")
	}
}

func (b *bench) sagas() int {
	many := 0
	for region := range b.Regions() {
		for range b.Node(region).Desk().Sagas() {
			many++
		}
	}
	return many
}

// done tells a request, and has it come to rest.
func (b *bench) done(a api.Ask) {
	b.t.Helper()
	b.tells(a)
	b.rest()
	if answer, is := b.Answer(a.Client, a.Number); !is || answer.Code != api.OK {
		b.t.Fatalf("%+v: %v %+v", a, is, answer)
	}
}

// Past the log: mail that no node sent. What would be posted is let go.

func (b *bench) region(i int, m api.Mail) {
	b.t.Helper()
	b.may(m)
	b.Node(i).Region().Mail(m, 0)
}

func (b *bench) desk(i, from int, m api.Mail) {
	b.t.Helper()
	b.may(m)
	b.Node(i).Desk().Mail(m, from)
}

func (b *bench) may(m api.Mail) {
	b.t.Helper()
	if !mail.May(m) {
		b.t.Fatal(m)
	}
}

func mailDo(a api.Ask) api.Mail {
	return api.Mail{Kind: api.MailDo, Ask: a}
}

func mailDone(client, number int) api.Mail {
	return api.Mail{Kind: api.MailDone, Answer: api.Answer{Client: client, Number: number}}
}

func about(kind, order int, l string) api.Mail {
	return api.Mail{Kind: kind, Order: order, Items: lists.Of(l)}
}

// lose loses all letters that are on their way.
func (b *bench) lose() {
	b.t.Helper()
	for b.Way() > 0 {
		b.does(api.Act{Kind: api.ActLose})
	}
}

// names are those of all audits that answer yes or no.
func names() []string {
	return []string{"sound", "kept", "flows", "parcels", "held", "quiet"}
}

func audits() map[string]func(*world.World) bool {
	return map[string]func(*world.World) bool{
		"sound": audit.Sound, "kept": audit.Kept, "flows": audit.Flows,
		"parcels": audit.Parcels, "held": audit.Held, "quiet": audit.Quiet,
	}
}

func plains() map[string]func(*world.World) bool {
	return map[string]func(*world.World) bool{
		"sound": plainSound, "kept": plainKept, "flows": plainFlows,
		"parcels": plainParcels, "held": plainHeld, "quiet": plainQuiet,
	}
}

// look has all audits, which must be as those that are reckoned plainly.
func (b *bench) look() map[string]bool {
	b.t.Helper()
	said := map[string]bool{}
	for name, is := range audits() {
		said[name] = is(b.World)
		if want := plains()[name](b.World); said[name] != want {
			b.t.Fatalf("%s: %v, not %v", name, said[name], want)
		}
	}
	return said
}

// but looks whether all audits but these are so.
func (b *bench) but(not ...string) {
	b.t.Helper()
	for name, is := range b.look() {
		if is == slices.Contains(not, name) {
			b.t.Fatalf("%s: %v", name, is)
		}
	}
}

// Audits that are reckoned plainly, region by region, order by order.

func allUp(w *world.World) bool {
	for i := range w.Regions() {
		if w.Node(i) == nil {
			return false
		}
	}
	return true
}

func plainSound(w *world.World) bool {
	is := true
	for i := range w.Regions() {
		if w.Node(i) == nil {
			continue
		}
		is = is && w.Node(i).Region().Sound()
		for s := range w.Node(i).Desk().Sagas() {
			p, there := w.Node(i).Desk().Parcel(s.Order)
			is = is && saga.May(s) && there && items.Covers(p.Want, p.Shipped) && items.Covers(p.Shipped, p.Back)
		}
	}
	return is
}

func plainParcels(w *world.World) bool {
	is := true
	for i := range w.Regions() {
		if w.Node(i) == nil {
			continue
		}
		for s := range w.Node(i).Desk().Sagas() {
			p, _ := w.Node(i).Desk().Parcel(s.Order)
			is = is && items.Covers(p.Want, p.Shipped)
			if s.State == api.SagaShipped {
				is = is && items.Covers(p.Shipped, p.Want)
			}
		}
	}
	return is
}

func plainQuiet(w *world.World) bool {
	is := allUp(w)
	for i := range w.Regions() {
		n := w.Node(i)
		is = is && n.Open() == 0 && n.Desk().Open() == 0
		for s := range n.Desk().Sagas() {
			is = is && len(s.Pending) == 0
		}
	}
	return is
}

// shelfGoods are all goods that some shelf knows, some of them more than once.
func shelfGoods(w *world.World) []string {
	var l []string
	for i := range w.Regions() {
		l = slices.AppendSeq(l, w.Node(i).Region().Shelf().Goods())
	}
	return l
}

func plainKept(w *world.World) bool {
	if !allUp(w) {
		return true
	}
	for _, good := range shelfGoods(w) {
		here, came, went, way := 0, 0, 0, 0
		for i := range w.Regions() {
			s := w.Node(i).Region().Shelf()
			l, f := s.Level(good), s.Flow(good)
			here += l.Free + l.Held + l.Picked + l.Aside
			came += f.Received + f.Returned + f.Counted
			went += f.Shipped + f.Scrapped
			way += f.Sent - f.Came
		}
		if way < 0 || here+way != came-went {
			return false
		}
	}
	return true
}

func plainFlows(w *world.World) bool {
	if !allUp(w) {
		return true
	}
	var asked []api.Ask
	for a := range w.Asked() {
		asked = append(asked, a)
	}
	var answers []api.Answer
	for a := range w.Answers() {
		answers = append(answers, a)
	}
	for _, good := range slices.AppendSeq(shelfGoods(w), model.Goods(asked)) {
		flows := map[int]int{}
		for i := range w.Regions() {
			f := w.Node(i).Region().Shelf().Flow(good)
			flows[api.AskReceive] += f.Received
			flows[api.AskReturn] += f.Returned
			flows[api.AskScrap] += f.Scrapped
			flows[api.AskMove] += f.Sent
			flows[api.AskShip] += f.Shipped
		}
		for kind, n := range flows {
			r := model.Span(kind, good, asked, answers)
			if n > r.Most || n < r.Least && kind != api.AskShip {
				return false
			}
		}
	}
	return true
}

func plainHeld(w *world.World) bool {
	if !plainQuiet(w) {
		return true
	}
	sagas := map[int]api.Saga{}
	for i := range w.Regions() {
		for s := range w.Node(i).Desk().Sagas() {
			sagas[s.Order] = s
		}
	}
	for i := range w.Regions() {
		for h := range w.Node(i).Region().Orders() {
			if _, is := sagas[h.Order]; !is {
				return false
			}
		}
		for order, s := range sagas {
			h := w.Node(i).Region().Hold(order)
			all, _ := items.Plus(h.Held, h.Picked)
			all, _ = items.Plus(all, h.Shipped)
			if !slices.Equal(all, s.Got[i]) {
				return false
			}
		}
	}
	return true
}

// packs are the codes of some stocks.
func packs(l []*stock.Stock) []string {
	var codes []string
	for _, s := range l {
		codes = append(codes, string(s.Pack()))
	}
	return codes
}
