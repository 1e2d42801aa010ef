package life_test

import (
	"slices"
	"strings"
	"testing"

	"entrepot/api"
	"entrepot/life"
)

// P20.1: the chapter's example.
func TestExample(t *testing.T) {
	if !life.May(api.SagaHeld, api.SagaPicking) || life.May(api.SagaPicked, api.SagaGone) {
		t.Error("May")
	}
}

// P20.1
func TestName(t *testing.T) {
	for state, name := range map[int]string{
		api.SagaAsking: "asking", api.SagaHeld: "held", api.SagaWaiting: "waiting", api.SagaUndoing: "undoing", api.SagaRefused: "refused", api.SagaGone: "gone",
		api.SagaPicking: "picking", api.SagaPicked: "picked", api.SagaShipping: "shipping", api.SagaShipped: "shipped",
	} {
		if s := life.Name(state); s != name {
			t.Errorf("Name(%d) = %q, not %q", state, s, name)
		}
		if n, is := life.Named(name); n != state || !is {
			t.Errorf("Named(%q) = %d, %t, not %d", name, n, is, state)
		}
	}
	for _, state := range nones() {
		if s := life.Name(state); s != "" {
			t.Errorf("Name(%d) = %q", state, s)
		}
	}
}

// P20.1: what is no state's name, the empty one too.
func TestNamedOfNone(t *testing.T) {
	wrong := []string{"", " ", "none", "saga", "0", "1", "2", "heldheld", "ship", "pick", "SagaHeld", "h\x00eld", "\xff", strings.Repeat("held", 1000)}
	for _, name := range named()[1:] {
		wrong = append(wrong, strings.ToUpper(name), strings.ToUpper(name[:1])+name[1:], name[1:], name[:len(name)-1], name+" ", " "+name, name+"\x00", name+"s", "un"+name)
	}
	for _, s := range wrong {
		if n, is := life.Named(s); n != 0 || is {
			t.Errorf("Named(%q) = %d, %t", s, n, is)
		}
	}
}

// behind is the chapter's table.
func behind() map[string]string {
	return map[string]string{
		"asking":   "asking held waiting undoing refused gone",
		"held":     "undoing picking",
		"waiting":  "asking gone",
		"undoing":  "waiting undoing refused gone",
		"picking":  "picking picked",
		"picked":   "shipping",
		"shipping": "shipping shipped",
		"refused":  "",
		"gone":     "",
		"shipped":  "",
	}
}

// P20.1
func TestMayAndBehind(t *testing.T) {
	for name, list := range behind() {
		state, want := states(name)[0], states(list)
		if l := life.Behind(state); !slices.Equal(l, want) || !slices.IsSorted(l) {
			t.Errorf("behind %s: %v, not %v", name, l, want)
		}
		for _, to := range append(all(), nones()...) {
			if is := life.May(state, to); is != slices.Contains(want, to) {
				t.Errorf("%d behind %s: %t", to, name, is)
			}
		}
	}
	for _, state := range nones() {
		if l := life.Behind(state); len(l) != 0 {
			t.Errorf("behind %d: %v", state, l)
		}
		for _, to := range append(all(), nones()...) {
			if life.May(state, to) {
				t.Errorf("%d behind %d", to, state)
			}
		}
	}
}

// R3: what is answered is new, its spare room too.
func TestBehindIsNew(t *testing.T) {
	for _, state := range all() {
		want := slices.Clone(life.Behind(state))
		one, two := life.Behind(state), life.Behind(state)
		one = one[:cap(one)]
		for i := range one {
			one[i] = 99
		}
		if !slices.Equal(two, want) || !slices.Equal(life.Behind(state), want) {
			t.Errorf("behind %d: %v, not %v", state, two, want)
		}
		for _, to := range all() {
			life.Reach(state, to)
		}
		if !slices.Equal(two, want) {
			t.Errorf("behind %d: %v", state, two)
		}
	}
}

// P20.1
func TestQuiet(t *testing.T) {
	quiet := states("held waiting refused gone picked shipped")
	for _, state := range append(all(), nones()...) {
		if is := life.Quiet(state); is != slices.Contains(quiet, state) {
			t.Errorf("Quiet(%d) = %t", state, is)
		}
	}
}

// reached is which states may come behind which, by some events.
func reached() map[string]string {
	everything := strings.Join(named(), " ")
	return map[string]string{
		"asking":   everything,
		"held":     everything,
		"waiting":  everything,
		"undoing":  everything,
		"picking":  "picking picked shipping shipped",
		"picked":   "shipping shipped",
		"shipping": "shipping shipped",
		"refused":  "",
		"gone":     "",
		"shipped":  "",
	}
}

// P20.1
func TestReach(t *testing.T) {
	for name, list := range reached() {
		state, want := states(name)[0], states(list)
		for _, to := range append(all(), nones()...) {
			if is := life.Reach(state, to); is != slices.Contains(want, to) {
				t.Errorf("%s reaches %d: %t", name, to, is)
			}
		}
	}
	for _, state := range nones() {
		for _, to := range append(all(), nones()...) {
			if life.Reach(state, to) {
				t.Errorf("%d reaches %d", state, to)
			}
		}
	}
}

// P20.1: one event, or one and then some.
func TestReachIsWhatBehindMakes(t *testing.T) {
	for _, from := range all() {
		for _, to := range all() {
			by := func(between int) bool { return life.Reach(between, to) }
			if is := life.Reach(from, to); is != (life.May(from, to) || slices.ContainsFunc(life.Behind(from), by)) {
				t.Errorf("%d reaches %d: %t", from, to, is)
			}
		}
	}
}

// P20.2: of each kind the states at which it is told something, and what.
func TestCode(t *testing.T) {
	want := map[int]map[int]api.Errno{
		api.AskOrder:  {api.SagaHeld: api.OK, api.SagaWaiting: api.ErrWait, api.SagaRefused: api.ErrLess, api.SagaGone: api.ErrNone},
		api.AskCancel: {api.SagaGone: api.OK},
		api.AskPick:   {api.SagaPicked: api.OK},
		api.AskShip:   {api.SagaShipped: api.OK},
	}
	kinds := []int{
		api.AskOrder, api.AskCancel, api.AskPick, api.AskShip, api.AskReturn, api.AskReceive, api.AskCount, api.AskRestock, api.AskScrap, api.AskMove, api.AskLow,
	}
	for _, kind := range append(kinds, append(nones(), 257, 258, 259, 260)...) {
		for _, state := range append(all(), nones()...) {
			code, is := want[kind][state]
			if c, told := life.Code(kind, state); c != code || told != is {
				t.Errorf("Code(%d, %d) = %d, %t, not %d, %t", kind, state, c, told, code, is)
			}
		}
	}
}
