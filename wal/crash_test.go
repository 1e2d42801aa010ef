package wal_test

import (
	"math/rand"
	"slices"
	"strings"
	"testing"

	"entrepot/api"
	"entrepot/sector"
	"entrepot/wal"
)

// story is what a log was told up to a crash: which entries were there (of these how many were sure), the one that was just being appended among them; and, in the middle of Compact, the new ones.
type story struct {
	there []string
	sure  int
	anew  bool
	fresh []string
}

// may tells whether a log may have these entries behind the crash.
func (s story) may(got []string) bool {
	if s.anew && slices.Equal(got, s.fresh) {
		return true
	}
	return len(got) >= s.sure && len(got) <= len(s.there) && slices.Equal(got, s.there[:len(got)])
}

// act is one call on a log. Of Compact texts are the new entries.
type act struct {
	kind  int
	texts []string
}

const (
	appends = iota
	syncs
	compacts
)

// tell does acts till one is ErrOff, and answers what came of them.
func tell(t *testing.T, l *wal.Log, s *story, acts []act) {
	t.Helper()
	for _, a := range acts {
		e := api.OK
		switch a.kind {
		case appends:
			s.there = append(s.there, a.texts[0])
			_, e = l.Append([]byte(a.texts[0]))
		case syncs:
			e = l.Sync()
		case compacts:
			s.anew, s.fresh = true, a.texts
			e = l.Compact(lists(a.texts))
		}
		if e == api.ErrOff {
			return
		}
		if e != api.OK {
			t.Fatal("refused:", e)
		}
		if a.kind == compacts {
			s.there, s.anew = slices.Clone(a.texts), false
		}
		if a.kind != appends {
			s.sure = len(s.there)
		}
	}
}

// acts are entries in pieces of sectors, over some, sure and not, ahead of a Compact and behind it.
func acts() []act {
	long := strings.Repeat("L", 130)
	return []act{
		{appends, []string{"a"}}, {appends, []string{long}}, {syncs, nil}, {appends, []string{"c"}},
		{appends, []string{strings.Repeat("d", 70)}}, {appends, []string{""}},
		{compacts, []string{"x", strings.Repeat("y", 120), "z"}}, {appends, []string{"u"}}, {syncs, nil},
		{appends, []string{strings.Repeat("v", 60)}}, {appends, []string{"w"}}, {syncs, nil}, {compacts, []string{"end"}},
	}
}

// broken runs the acts on a new device, the power of which goes behind so many calls. It answers nil, if all were done ahead.
func broken(t *testing.T, calls int) (*sector.Device, story) {
	t.Helper()
	d := device(t, 13)
	s := story{}
	d.Stop(calls)
	if l, e := wal.Open(d); e == api.OK {
		tell(t, l, &s, acts())
	}
	if !d.Off() {
		return nil, s
	}
	return d, s
}

// each goes over the ways in which a device may crash that has so many dirty sectors: each subset is kept, nothing else or one of the others torn.
func each(dirty []int, parts []int, crash func(keep []int, torn, part int)) {
	for set := range 1 << len(dirty) {
		var keep, others []int
		for i, sector := range dirty {
			if set>>i&1 == 1 {
				keep = append(keep, sector)
			} else {
				others = append(others, sector)
			}
		}
		crash(keep, -1, 0)
		for _, torn := range others {
			for _, part := range parts {
				crash(keep, torn, part)
			}
		}
	}
}

// goesOn looks whether a log is one like any other.
func goesOn(t *testing.T, d *sector.Device, l *wal.Log) {
	t.Helper()
	want := append(texts(t, l), "more")
	put(t, l, "more")
	sync(t, l)
	crash(t, d, nil, -1, 0)
	has(t, d, open(t, d), want...)
}

// P4.3: the power goes behind each of the calls on the device, and each of the crashes that may be follows.
func TestCrashAnywhere(t *testing.T) {
	parts := []int{1, 4, 20, 33, 62, 63, 64}
	for calls := 0; ; calls++ {
		d, s := broken(t, calls)
		if d == nil {
			if calls < 30 {
				t.Error("all was done behind", calls)
			}
			return
		}
		each(slices.Collect(d.Dirty()), parts, func(keep []int, torn, part int) {
			d, _ := broken(t, calls)
			crash(t, d, keep, torn, part)
			l := open(t, d)
			if got := texts(t, l); !s.may(got) {
				t.Fatalf("behind %d calls, kept %v, torn %d at %d: %q of %+v", calls, keep, torn, part, got, s)
			}
			if l.Sure() != l.Len() {
				t.Error("sure:", l.Sure(), l.Len())
			}
			goesOn(t, d, l)
		})
		if t.Failed() {
			return
		}
	}
}

// P4.3: a head that is torn anywhere is the old one, none, or the whole new one.
func TestCrashTearsTheHead(t *testing.T) {
	// 257 has two bytes that are unlike those of 255, which stands in its sector ahead.
	for _, generation := range []int{2, 3, 257} {
		for part := range api.SectorBytes + 1 {
			d := device(t, 8)
			l := open(t, d)
			put(t, l, "old")
			for sync(t, l); l.Generation() < generation-1; compact(t, l, "old") {
			}
			// Three sectors, a Flush, the head.
			d.Stop(3 + 2)
			if e := l.Compact(lists([]string{"new"})); e != api.ErrOff {
				t.Fatal(e)
			}
			crash(t, d, nil, generation%2, part)
			got := texts(t, open(t, d))
			// Bytes 39 and 40, the second copy's generation and half, are the last ones in which heads are unlike.
			if want := []string{"old", "new"}; len(got) != 1 || got[0] != want[0] && part < 40 || got[0] != want[1] && part > 40 {
				t.Errorf("generation %d, torn at %d: %q", generation, part, got)
			}
		}
	}
}

// P4.3: behind crashes in the middle of Open, one after the other, those that the first one found.
func TestCrashInTheMiddleOfOpen(t *testing.T) {
	want := []string{"a", strings.Repeat("b", 150), "", "d"}
	const half = 4
	for calls := range half + 3 {
		for second := range half + 3 {
			r := rand.New(rand.NewSource(int64(calls*100 + second)))
			d := device(t, 2+2*half)
			l := open(t, d)
			put(t, l, want...)
			sync(t, l)
			for _, n := range []int{calls, second, calls} {
				d.Stop(n)
				if l, e := wal.Open(d); l != nil || e != api.ErrOff {
					t.Fatal(l, e)
				}
				crash(t, d, r.Perm(d.Len())[:r.Intn(d.Len())], r.Intn(d.Len()), r.Intn(65))
			}
			l = open(t, d)
			has(t, d, l, want...)
			goesOn(t, d, l)
		}
	}
}

// P4.3: the example of the chapter.
func TestWhatIsNotSureMayBeLost(t *testing.T) {
	d := device(t, 8)
	l := open(t, d)
	put(t, l, "a")
	sync(t, l)
	put(t, l, "b")
	crash(t, d, nil, -1, 0)
	has(t, d, open(t, d), "a")
	l = open(t, d)
	put(t, l, "b")
	crash(t, d, slices.Collect(d.Dirty()), -1, 0)
	has(t, d, open(t, d), "a", "b")
}

// P4.3: an entry of which the beginning alone was kept is let go, and does not come back when others are put behind.
func TestHalfAnEntryIsLetGo(t *testing.T) {
	d := device(t, 20)
	l := open(t, d)
	put(t, l, "a")
	sync(t, l)
	put(t, l, strings.Repeat("b", 200))
	dirty := slices.Collect(d.Dirty())
	crash(t, d, dirty[:2], dirty[2], 30)
	l = open(t, d)
	has(t, d, l, "a")
	put(t, l, strings.Repeat("c", 40))
	has(t, d, open(t, d), "a", strings.Repeat("c", 40))
}

// P4.1 to P4.3: acts by chance, and crashes behind which all goes on.
func TestManyCrashes(t *testing.T) {
	for seed := range 40 {
		r := rand.New(rand.NewSource(int64(seed)))
		d := device(t, 20+r.Intn(3))
		s := story{}
		for range 60 {
			d.Stop(r.Intn(60))
			if l, e := wal.Open(d); e == api.OK {
				s.sure = len(s.there)
				tell(t, l, &s, chance(r, l.Room()))
			}
			crash(t, d, r.Perm(d.Len())[:r.Intn(d.Len())], r.Intn(d.Len()+1)-1, r.Intn(65))
			l := open(t, d)
			got := texts(t, l)
			if !s.may(got) {
				t.Fatalf("seed %d: %q of %+v", seed, got, s)
			}
			has(t, d, l, got...)
			s = story{there: got, sure: len(got)}
		}
	}
}

// chance is some acts for which there is room.
func chance(r *rand.Rand, room int) []act {
	var l []act
	for range r.Intn(30) {
		s := strings.Repeat(string(rune('a'+r.Intn(26))), r.Intn(100))
		switch r.Intn(8) {
		case 0:
			l, room = append(l, act{compacts, []string{s, "of", s}}), 9*63-2*len(s)-11
		case 1, 2:
			l = append(l, act{syncs, nil})
		default:
			if room >= len(s)+api.EntryTop {
				l, room = append(l, act{appends, []string{s}}), room-len(s)-api.EntryTop
			}
		}
	}
	return l
}
