package saga_test

import (
	"math/rand"
	"slices"
	"testing"

	"entrepot/api"
	"entrepot/items"
	"entrepot/lists"
	"entrepot/saga"
)

// replies are all that the regions, and whoever wants the order, may tell a saga.
func replies(s api.Saga) []api.Event {
	l := []api.Event{{Kind: api.EventCancel}, {Kind: api.EventRetry}, {Kind: api.EventPick}, {Kind: api.EventShip}}
	for region, has := range s.Got {
		l = append(l, api.Event{Kind: api.EventFreed, Region: region}, api.Event{Kind: api.EventPicked, Region: region, Items: has}, api.Event{Kind: api.EventShipped, Region: region, Items: has})
		for _, share := range []string{"", "a 1", "a 2", "b 1", "a 1, b 1", "a 2, b 1"} {
			l = append(l, event(api.EventTook, region, share))
		}
	}
	return l
}

// P15.4: all sagas that any events lead to, with what follows of each step on the way.
func TestAllThatBegins(t *testing.T) {
	states := map[int]int{}
	for regions := 1; regions <= 3; regions++ {
		for first := range regions {
			for _, waits := range []bool{false, true} {
				begun, _, _ := saga.Begin(7, first, regions, lists.Of("a 2, b 1"), waits)
				work, seen := []api.Saga{begun}, map[string]bool{}
				for len(work) > 0 {
					s := work[0]
					work = work[1:]
					b, e := saga.Encode(s)
					if e != api.OK || !may(s) {
						t.Fatal(s, "may not be")
					}
					if seen[string(b)] {
						continue
					}
					seen[string(b)] = true
					states[s.State]++
					for _, e := range replies(s) {
						if n, steps, err := saga.Next(s, e); err == api.OK {
							follows(t, s, e, n, steps)
							work = append(work, n)
						}
					}
				}
			}
		}
	}
	if len(states) != 10 {
		t.Error("states:", states)
	}
}

// follows is P15.4 of one step, and what stays as it is whatever happens.
func follows(t *testing.T, s api.Saga, e api.Event, n api.Saga, steps []api.Step) {
	t.Helper()
	if n.Order != s.Order || n.First != s.First || n.Regions != s.Regions || n.Waits != s.Waits || !sameItems(n.Want, s.Want) {
		t.Fatalf("%v became %v by %v", s, n, e)
	}
	if s.Cancelled && !n.Cancelled {
		t.Fatalf("%v is not cancelled any more by %v", s, e)
	}
	held := len(saga.Holders(n)) > 0
	switch n.State {
	case api.SagaWaiting, api.SagaRefused, api.SagaGone:
		if held {
			t.Fatalf("%v holds something", n)
		}
	}
	if s.State == api.SagaUndoing && n.State != api.SagaUndoing && held {
		t.Fatalf("%v holds something behind %v", n, s)
	}
	if saga.Over(s.State) {
		t.Fatalf("%v goes on by %v", s, e)
	}
	// Whoever gets pending is asked by a step; nobody else is.
	asked := []int{}
	for _, step := range steps {
		if step.Kind != api.StepTold {
			asked = append(asked, step.Region)
		} else if step.State != n.State || len(steps) != 1 {
			t.Fatalf("%v tells %v", n, steps)
		}
	}
	if len(asked) > 0 && !slices.Equal(asked, n.Pending) {
		t.Fatalf("%v asks %v", n, asked)
	}
	if len(asked) == 0 && len(n.Pending) > 0 && n.State != s.State {
		t.Fatalf("%v asks nobody behind %v", n, s)
	}
}

// warehouses are regions that have goods, and mail on its way to them, for one order.
type warehouses struct {
	t     *testing.T
	r     *rand.Rand
	s     api.Saga
	free  [][]api.Item
	held  [][]api.Item
	asked []map[int]int // of each region, how often it was asked what, since the order was tried last
	way   []api.Step
	told  []int
}

func newWarehouses(t *testing.T, r *rand.Rand) *warehouses {
	regions := 1 + r.Intn(8)
	w := &warehouses{t: t, r: r, held: make([][]api.Item, regions), asked: make([]map[int]int, regions)}
	for i := range regions {
		w.asked[i] = map[int]int{}
		w.free = append(w.free, list(map[string]int{"a": r.Intn(4), "b": r.Intn(3), "c": r.Intn(2)}))
	}
	want := list(map[string]int{"a": 1 + r.Intn(8), "b": r.Intn(4), "c": r.Intn(2)})
	s, steps, e := saga.Begin(9, r.Intn(regions), regions, want, r.Intn(2) == 0)
	if e != api.OK {
		t.Fatal(e)
	}
	w.s = s
	w.do(steps)
	return w
}

// do lays mail on its way. A region that is asked for something was asked for what it holds, and is asked once.
func (w *warehouses) do(steps []api.Step) {
	for _, step := range steps {
		if step.Kind == api.StepTold {
			w.told = append(w.told, step.State)
			continue
		}
		w.asked[step.Region][step.Kind]++
		if w.asked[step.Region][step.Kind] > 1 {
			w.t.Fatalf("%v asks region %d a second time for %d", w.s, step.Region, step.Kind)
		}
		if step.Kind != api.MailTake && (len(w.held[step.Region]) == 0 || w.asked[step.Region][api.MailTake] != 1) {
			w.t.Fatalf("%v asks region %d for %d, which has nothing", w.s, step.Region, step.Kind)
		}
		w.way = append(w.way, step)
	}
}

func (w *warehouses) next(e api.Event) bool {
	before := w.s
	n, steps, err := saga.Next(w.s, e)
	if err != api.OK {
		return false
	}
	follows(w.t, before, e, n, steps)
	if e.Kind == api.EventRetry {
		for _, k := range w.asked {
			clear(k)
		}
	}
	w.s = n
	w.do(steps)
	return true
}

// comes lets any of the mail on its way come, and its answer at once: none is refused.
func (w *warehouses) comes() {
	i := w.r.Intn(len(w.way))
	step := w.way[i]
	w.way = slices.Delete(w.way, i, i+1)
	e := api.Event{Region: step.Region}
	switch step.Kind {
	case api.MailTake:
		e.Kind, e.Items = api.EventTook, items.Meet(step.Items, w.free[step.Region])
		w.free[step.Region] = items.Rest(w.free[step.Region], e.Items)
		w.held[step.Region] = e.Items
	case api.MailFree:
		e.Kind = api.EventFreed
		w.free[step.Region], _ = items.Plus(w.free[step.Region], w.held[step.Region])
		w.held[step.Region] = nil
	case api.MailPick:
		e.Kind, e.Items = api.EventPicked, w.held[step.Region]
	case api.MailShip:
		e.Kind, e.Items = api.EventShipped, w.held[step.Region]
	}
	if !w.next(e) {
		w.t.Fatalf("%v refuses %v", w.s, e)
	}
}

// P15.4: what a saga says that regions hold is what they hold, when nothing is on its way; each is asked once; and all comes to rest.
func TestSagasAmongRegions(t *testing.T) {
	r := rand.New(rand.NewSource(154))
	ends := map[int]int{}
	told := []int{api.EventPick, api.EventShip, api.EventRetry, api.EventPick, api.EventShip, api.EventRetry, api.EventCancel}
	for range 3000 {
		w := newWarehouses(t, r)
		before := slices.Concat(w.free...)
		for range r.Intn(60) {
			if len(w.way) > 0 && r.Intn(4) > 0 {
				w.comes()
			} else if r.Intn(4) == 0 {
				w.next(api.Event{Kind: told[r.Intn(len(told))]})
			}
		}
		for len(w.way) > 0 {
			w.comes()
		}
		if len(w.s.Pending) > 0 || w.s.State == api.SagaAsking || !slices.EqualFunc(w.s.Got, w.held, sameItems) {
			t.Fatalf("%v is at rest; %v is held", w.s, w.held)
		}
		if w.told[len(w.told)-1] != w.s.State {
			t.Fatalf("%v was told last, not %d", w.told, w.s.State)
		}
		for _, good := range []string{"a", "b", "c"} {
			if items.Of(slices.Concat(slices.Concat(w.free...), slices.Concat(w.held...)), good) != items.Of(before, good) {
				t.Fatalf("%v and %v, not %v", w.free, w.held, before)
			}
		}
		ends[w.s.State]++
	}
	for _, state := range []int{api.SagaHeld, api.SagaWaiting, api.SagaRefused, api.SagaGone, api.SagaPicked, api.SagaShipped} {
		if ends[state] < 20 {
			t.Error("ends:", ends)
		}
	}
}
