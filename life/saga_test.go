package life_test

import (
	"math/rand"
	"slices"
	"testing"

	"entrepot/api"
	"entrepot/life"
	"entrepot/saga"
)

// P20.3: what any event makes of any saga is a state that may come behind, and each that may is made of some.
func TestWhatNextMakesMayComeBehind(t *testing.T) {
	made := map[[2]int]int{}
	work, seen := begun(), map[string]bool{}
	for len(work) > 0 {
		s := work[0]
		work = work[1:]
		b, _ := saga.Encode(s)
		if seen[string(b)] {
			continue
		}
		seen[string(b)] = true
		for _, n := range next(s, append(byRegions(s), byOthers()...)) {
			made[[2]int{s.State, n.State}]++
			work = append(work, n)
		}
	}
	for _, from := range all() {
		for _, to := range all() {
			if may := life.May(from, to); may != (made[[2]int{from, to}] > 0) {
				t.Errorf("%s behind %s: %t, made %d times", life.Name(to), life.Name(from), may, made[[2]int{from, to}])
			}
		}
	}
	if len(seen) < 500 {
		t.Error("sagas:", len(seen))
	}
}

// P20.3: of sagas to which no events lead too.
func TestWhatNextMakesOfSmallSagas(t *testing.T) {
	l := small()
	if len(l) < 300 {
		t.Fatal("sagas:", len(l))
	}
	for _, s := range l {
		for _, n := range next(s, append(byRegions(s), byOthers()...)) {
			if !life.May(s.State, n.State) || !slices.Contains(life.Behind(s.State), n.State) || !life.Reach(s.State, n.State) {
				t.Fatalf("%v became %v", s, n)
			}
		}
	}
}

// P20.1: of a quiet one nothing comes by what regions tell; of each other one something does.
func TestQuietSagas(t *testing.T) {
	for _, s := range append(small(), begun()...) {
		if went := len(next(s, byRegions(s))) > 0; went == life.Quiet(s.State) {
			t.Fatalf("%v went on: %t", s, went)
		}
	}
}

// P20.3: by the states alone.
func TestEachStateReachesAnEnd(t *testing.T) {
	for _, state := range all() {
		end := slices.Contains(ends(), state)
		if end != saga.Over(state) || end != (len(life.Behind(state)) == 0) {
			t.Error(state, end)
		}
		reaches := func(to int) bool { return life.Reach(state, to) }
		if slices.ContainsFunc(ends(), reaches) == end {
			t.Errorf("%s reaches an end: %t", life.Name(state), !end)
		}
	}
}

// P20.3: by sagas: each that may be gets to an end, by some events, and all that it is on its way may come behind what it was.
func TestEachSagaReachesAnEnd(t *testing.T) {
	r := rand.New(rand.NewSource(203))
	sagas := append(small(), begun()...)
	for i, s := range sagas {
		way := []int{s.State}
		for step := 0; !slices.Contains(ends(), s.State); step++ {
			if step == 1000 {
				t.Fatal("no end of", sagas[i])
			}
			l := next(s, append(byRegions(s), byOthers()...))
			s = l[r.Intn(len(l))]
			for _, state := range way {
				if !life.Reach(state, s.State) {
					t.Fatal(way, s.State)
				}
			}
			way = append(way, s.State)
		}
	}
}

// P20.2: at each state at which who wants an order is told something it is quiet, and at each quiet one that comes ahead of picking it is told.
func TestWhoWantsAnOrderIsTold(t *testing.T) {
	for _, state := range all() {
		_, told := life.Code(api.AskOrder, state)
		if picking := life.Reach(api.SagaPicking, state); told != (life.Quiet(state) && !picking) {
			t.Error(state, told, picking)
		}
	}
}
