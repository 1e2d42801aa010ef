package wal_test

import (
	"bytes"
	"slices"
	"strings"
	"testing"

	"entrepot/api"
	"entrepot/sector"
	"entrepot/wal"
)

func device(t *testing.T, sectors int) *sector.Device {
	t.Helper()
	d, e := sector.New(sectors)
	if e != api.OK {
		t.Fatal("New:", e)
	}
	return d
}

func open(t *testing.T, d *sector.Device) *wal.Log {
	t.Helper()
	l, e := wal.Open(d)
	if l == nil || e != api.OK {
		t.Fatal("Open:", e)
	}
	return l
}

// put appends texts, and looks whether each gets the next number.
func put(t *testing.T, l *wal.Log, texts ...string) {
	t.Helper()
	for _, s := range texts {
		want := l.Len()
		if i, e := l.Append([]byte(s)); i != want || e != api.OK {
			t.Fatalf("Append of %d bytes: %d, %d", len(s), i, e)
		}
	}
}

func sync(t *testing.T, l *wal.Log) {
	t.Helper()
	if e := l.Sync(); e != api.OK {
		t.Fatal("Sync:", e)
	}
}

func compact(t *testing.T, l *wal.Log, texts ...string) {
	t.Helper()
	if e := l.Compact(lists(texts)); e != api.OK {
		t.Fatal("Compact:", e)
	}
}

func crash(t *testing.T, d *sector.Device, keep []int, torn, part int) {
	t.Helper()
	if e := d.Crash(keep, torn, part); e != api.OK {
		t.Fatal("Crash:", e)
	}
}

func lists(texts []string) [][]byte {
	var l [][]byte
	for _, s := range texts {
		l = append(l, []byte(s))
	}
	return l
}

// texts are a log's entries; their numbers are looked at.
func texts(t *testing.T, l *wal.Log) []string {
	t.Helper()
	var got []string
	for i, b := range l.Entries() {
		if i != len(got) {
			t.Errorf("entry %d has the number %d", len(got), i)
		}
		got = append(got, string(b))
	}
	return got
}

// has looks at entries, how many there are, and for how many bytes there is room.
func has(t *testing.T, d *sector.Device, l *wal.Log, want ...string) {
	t.Helper()
	got := texts(t, l)
	if !slices.Equal(got, want) {
		t.Errorf("entries: %.200q, not %.200q", got, want)
	}
	if l.Len() != len(want) {
		t.Errorf("Len() = %d, not %d", l.Len(), len(want))
	}
	if room := (d.Len()-2)/2*63 - len(streamOf(want...)); l.Room() != room {
		t.Errorf("Room() = %d, not %d", l.Room(), room)
	}
}

// P4.1, P4.2: a device on which nothing was written.
func TestOpenAnew(t *testing.T) {
	for _, sectors := range []int{4, 5, 6, 7, 100, 101, api.MaxSectors} {
		d := device(t, sectors)
		l := open(t, d)
		has(t, d, l)
		if l.Generation() != 1 || l.Sure() != 0 {
			t.Errorf("%d sectors: generation %d, sure %d", sectors, l.Generation(), l.Sure())
		}
	}
}

// P4.1
func TestOpenRefusesDevices(t *testing.T) {
	if l, e := wal.Open(nil); l != nil || e != api.ErrArg {
		t.Error("nil:", l, e)
	}
	for _, sectors := range []int{1, 2, 3} {
		d := device(t, sectors)
		for range 2 {
			if l, e := wal.Open(d); l != nil || e != api.ErrArg {
				t.Errorf("%d sectors: %v, %d", sectors, l, e)
			}
			// ErrArg is named ahead of ErrOff.
			d.Stop(0)
		}
		if w, f := d.Counts(); w != 0 || f != 0 {
			t.Errorf("%d sectors: %d, %d", sectors, w, f)
		}
	}
}

// P4.1: power that is gone, or goes at each of the calls on the device.
func TestOpenWithoutPower(t *testing.T) {
	const half = 3
	for calls := range half + 3 {
		d := device(t, 2+2*half)
		d.Stop(calls)
		if l, e := wal.Open(d); l != nil || e != api.ErrOff {
			t.Errorf("behind %d calls: %v, %d", calls, l, e)
		}
		if w, f := d.Counts(); w+f != calls {
			t.Errorf("behind %d calls: %d, %d", calls, w, f)
		}
	}
	d := device(t, 2+2*half)
	d.Stop(half + 3)
	if l, e := wal.Open(d); l == nil || e != api.OK {
		t.Error("behind all calls:", e)
	}
}

// P4.1, P4.2
func TestAppendAndSync(t *testing.T) {
	d := device(t, 40)
	l := open(t, d)
	put(t, l, "a", "", "ccc", strings.Repeat("d", 200), "")
	has(t, d, l, "a", "", "ccc", strings.Repeat("d", 200), "")
	if l.Sure() != 0 {
		t.Error("sure ahead of Sync:", l.Sure())
	}
	sync(t, l)
	if l.Sure() != 5 {
		t.Error("sure behind Sync:", l.Sure())
	}
	put(t, l, "e")
	if l.Sure() != 5 || l.Len() != 6 {
		t.Error(l.Sure(), l.Len())
	}
	sync(t, l)
	sync(t, l)
	if l.Sure() != 6 || l.Generation() != 1 {
		t.Error(l.Sure(), l.Generation())
	}
	has(t, d, l, "a", "", "ccc", strings.Repeat("d", 200), "", "e")
}

// P4.1: what was appended is there again, sure or not, if there was no crash; it is sure behind Open.
func TestOpenAgain(t *testing.T) {
	d := device(t, 30)
	var want []string
	for generation := 1; generation < 9; generation++ {
		l := open(t, d)
		has(t, d, l, want...)
		if l.Sure() != len(want) || l.Generation() != generation {
			t.Errorf("sure %d, generation %d", l.Sure(), l.Generation())
		}
		s := strings.Repeat("x", 9*generation)
		put(t, l, s)
		want = append(want, s)
	}
}

// P4.1: the room is used up to its last byte, and no further.
func TestAppendToTheLastByte(t *testing.T) {
	for _, sectors := range []int{4, 5, 8, 9} {
		d := device(t, sectors)
		most := (sectors - 2) / 2 * 63
		l := open(t, d)
		if i, e := l.Append(make([]byte, most-2)); i != 0 || e != api.ErrFull {
			t.Errorf("%d sectors: a byte too many: %d, %d", sectors, i, e)
		}
		has(t, d, l)
		long := strings.Repeat("x", most-3)
		put(t, l, long)
		has(t, d, l, long)
		for _, b := range [][]byte{nil, {}, {1}} {
			if i, e := l.Append(b); i != 0 || e != api.ErrFull {
				t.Errorf("%d sectors: no room: %d, %d", sectors, i, e)
			}
		}
		sync(t, l)
		has(t, d, open(t, d), long)
		l = open(t, d)
		compact(t, l)
		put(t, l, long[:most-9], "abc")
		for _, b := range [][]byte{nil, {}, {1}} {
			if i, e := l.Append(b); i != 0 || e != api.ErrFull {
				t.Errorf("%d sectors: no room: %d, %d", sectors, i, e)
			}
		}
		has(t, d, open(t, d), long[:most-9], "abc")
	}
}

// P4.1: MaxFrame bytes are an entry, one more is none; ErrLong is named ahead of ErrFull, and both ahead of ErrOff.
func TestAppendOfTooManyBytes(t *testing.T) {
	d := device(t, api.MaxSectors)
	l := open(t, d)
	long := strings.Repeat("x", api.MaxFrame)
	if i, e := l.Append([]byte(long + "x")); i != 0 || e != api.ErrLong {
		t.Error(i, e)
	}
	put(t, l, long, "b", long)
	has(t, d, open(t, d), long, "b", long)
	d = device(t, 6)
	l = open(t, d)
	for range 2 {
		if i, e := l.Append([]byte(long + "x")); i != 0 || e != api.ErrLong {
			t.Error(i, e)
		}
		if i, e := l.Append([]byte(long)); i != 0 || e != api.ErrFull {
			t.Error(i, e)
		}
		if e := l.Compact(lists([]string{long, long + "x"})); e != api.ErrLong {
			t.Error(e)
		}
		if e := l.Compact(lists([]string{"a", long})); e != api.ErrFull {
			t.Error(e)
		}
		has(t, d, l)
		d.Stop(0)
	}
}

// P4.1
func TestCompactIsInPlaceOfAll(t *testing.T) {
	d := device(t, 20)
	l := open(t, d)
	put(t, l, "a", "b", "c")
	compact(t, l, "x", "", strings.Repeat("y", 100))
	has(t, d, l, "x", "", strings.Repeat("y", 100))
	if l.Generation() != 2 || l.Sure() != 3 {
		t.Error(l.Generation(), l.Sure())
	}
	put(t, l, "z")
	if l.Sure() != 3 {
		t.Error(l.Sure())
	}
	has(t, d, l, "x", "", strings.Repeat("y", 100), "z")
	compact(t, l)
	has(t, d, l)
	if l.Generation() != 3 || l.Sure() != 0 {
		t.Error(l.Generation(), l.Sure())
	}
	put(t, l, "w")
	l = open(t, d)
	has(t, d, l, "w")
	if l.Generation() != 4 {
		t.Error(l.Generation())
	}
}

// P4.1: a stream that fits a half just so, and one that does not; nothing changes with what is refused.
func TestCompactToTheLastByte(t *testing.T) {
	d := device(t, 9)
	l := open(t, d)
	put(t, l, "old")
	before := stored(t, d)
	for _, wrong := range [][]string{
		{strings.Repeat("x", 187)},
		{strings.Repeat("x", 100), strings.Repeat("x", 84)},
		slices.Repeat([]string{""}, 64),
	} {
		if e := l.Compact(lists(wrong)); e != api.ErrFull {
			t.Error("too much:", e)
		}
	}
	if !slices.EqualFunc(stored(t, d), before, bytes.Equal) || l.Generation() != 1 {
		t.Error("what was refused was written")
	}
	has(t, d, l, "old")
	for _, right := range [][]string{
		{strings.Repeat("x", 186)},
		{strings.Repeat("x", 100), strings.Repeat("x", 83)},
		slices.Repeat([]string{""}, 63),
	} {
		compact(t, l, right...)
		has(t, d, l, right...)
		if _, e := l.Append(nil); e != api.ErrFull {
			t.Error("no room:", e)
		}
		has(t, d, open(t, d), right...)
		l = open(t, d)
	}
}

// P4.1: once it was ErrOff the log is at its end, though the power is there again; what it tells stays, and the device is left alone.
func TestTheLogIsAtItsEnd(t *testing.T) {
	long := []byte(strings.Repeat("x", 100))
	for name, call := range map[string]func(*wal.Log) api.Errno{
		"Append":  func(l *wal.Log) api.Errno { _, e := l.Append(long); return e },
		"Sync":    (*wal.Log).Sync,
		"Compact": func(l *wal.Log) api.Errno { return l.Compact([][]byte{long}) },
	} {
		for calls := range 2 {
			if calls == 1 && name == "Sync" {
				continue
			}
			d := device(t, 10)
			l := open(t, d)
			put(t, l, "a")
			sync(t, l)
			put(t, l, "b")
			d.Stop(calls)
			if e := call(l); e != api.ErrOff {
				t.Errorf("%s behind %d calls: %d", name, calls, e)
			}
			d.Stop(-1)
			ended(t, d, l, name)
		}
	}
}

// ended looks at a log of a and b, of which a is sure, that is at its end.
func ended(t *testing.T, d *sector.Device, l *wal.Log, name string) {
	t.Helper()
	before := stored(t, d)
	writes, flushes := d.Counts()
	for range 2 {
		if i, e := l.Append([]byte("c")); i != 0 || e != api.ErrOff {
			t.Errorf("behind %s: Append %d, %d", name, i, e)
		}
		if e := l.Sync(); e != api.ErrOff {
			t.Errorf("behind %s: Sync %d", name, e)
		}
		if e := l.Compact(nil); e != api.ErrOff {
			t.Errorf("behind %s: Compact %d", name, e)
		}
		if _, e := l.Append(make([]byte, api.MaxFrame+1)); e != api.ErrLong {
			t.Errorf("behind %s: Append of too many bytes %d", name, e)
		}
		if _, e := l.Append(make([]byte, 500)); e != api.ErrFull {
			t.Errorf("behind %s: Append without room %d", name, e)
		}
		if e := l.Compact([][]byte{make([]byte, api.MaxFrame+1)}); e != api.ErrLong {
			t.Errorf("behind %s: Compact of too many bytes %d", name, e)
		}
		if e := l.Compact([][]byte{make([]byte, 500)}); e != api.ErrFull {
			t.Errorf("behind %s: Compact without room %d", name, e)
		}
	}
	has(t, d, l, "a", "b")
	if l.Sure() != 1 || l.Generation() != 1 {
		t.Errorf("behind %s: sure %d, generation %d", name, l.Sure(), l.Generation())
	}
	if w, f := d.Counts(); w != writes || f != flushes || !slices.EqualFunc(stored(t, d), before, bytes.Equal) {
		t.Errorf("behind %s: written still", name)
	}
}

// P4.2, R5: they begin anew, are as the log is when they are ranged over, and may be stopped.
func TestEntriesAreGoneOverAnew(t *testing.T) {
	d := device(t, 20)
	l := open(t, d)
	over := l.Entries()
	put(t, l, "a", "b", "c")
	for range 2 {
		n := 0
		for i, b := range over {
			if i != n || string(b) != string(rune('a'+n)) {
				t.Error(i, string(b))
			}
			n++
		}
		if n != 3 {
			t.Error(n)
		}
	}
	for i := range over {
		if i == 1 {
			break
		}
	}
	compact(t, l, "x")
	for i, b := range over {
		if i != 0 || string(b) != "x" {
			t.Error(i, string(b))
		}
	}
	d.Stop(0)
	has(t, d, l, "x")
}

// P4.2
func TestNilLog(t *testing.T) {
	var l *wal.Log
	for _, b := range [][]byte{nil, {1}, make([]byte, api.MaxFrame+1)} {
		if i, e := l.Append(b); i != 0 || e != api.ErrClosed {
			t.Error("Append:", i, e)
		}
		if e := l.Compact([][]byte{b}); e != api.ErrClosed {
			t.Error("Compact:", e)
		}
	}
	if e := l.Sync(); e != api.ErrClosed {
		t.Error("Sync:", e)
	}
	for range l.Entries() {
		t.Error("an entry")
	}
	if l.Len() != 0 || l.Sure() != 0 || l.Room() != 0 || l.Generation() != 0 {
		t.Error(l.Len(), l.Sure(), l.Room(), l.Generation())
	}
}

// R3
func TestLogSharesNothing(t *testing.T) {
	d := device(t, 30)
	l := open(t, d)
	room := []byte("entryREST")
	b := room[:5]
	l.Append(b)
	l.Append(b)
	clear(b)
	has(t, d, l, "entry", "entry")
	for _, b := range l.Entries() {
		clear(b[:cap(b)])
	}
	put(t, l, "more")
	for _, b := range l.Entries() {
		_ = append(b, "over what lies behind"...)
	}
	has(t, d, l, "entry", "entry", "more")
	list := [][]byte{room[:5], []byte("two"), []byte("rest")}
	copy(room, "ENTRY")
	if e := l.Compact(list[:2]); e != api.OK {
		t.Fatal(e)
	}
	if string(room) != "ENTRYREST" || string(list[1]) != "two" || string(list[2]) != "rest" {
		t.Errorf("%q, %q", room, list)
	}
	clear(list[1])
	clear(room)
	has(t, d, l, "ENTRY", "two")
	has(t, d, open(t, d), "ENTRY", "two")
}
