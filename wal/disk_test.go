package wal_test

import (
	"bytes"
	"encoding/binary"
	"math"
	"slices"
	"strconv"
	"strings"
	"testing"

	"entrepot/api"
	"entrepot/sector"
)

// streamOf is the entries' stream, as the chapter tells it.
func streamOf(texts ...string) []byte {
	var b []byte
	for _, s := range texts {
		b = append(b, byte(len(s)/65536), byte(len(s)/256%256), byte(len(s)%256))
		b = append(b, s...)
	}
	return b
}

// halfOf is a half that has a stream.
func halfOf(stream []byte, sectors int) [][]byte {
	var l [][]byte
	for range sectors {
		used := min(63, len(stream))
		l = append(l, sectorOf(string(stream[:used]), used))
		stream = stream[used:]
	}
	return l
}

// sectorOf is a sector that says it has so many bytes of a stream.
func sectorOf(text string, used int) []byte {
	b := make([]byte, api.SectorBytes)
	copy(b, text)
	b[63] = byte(used)
	return b
}

func headOf(generation uint64, half byte) []byte {
	b := binary.BigEndian.AppendUint64(nil, generation)
	b = append(b, half)
	b = append(b, make([]byte, 23)...)
	return append(b, b...)
}

func stored(t *testing.T, d *sector.Device) [][]byte {
	t.Helper()
	var l [][]byte
	for i := range d.Len() {
		b, e := d.Read(i)
		if e != api.OK {
			t.Fatal("Read:", e)
		}
		l = append(l, b)
	}
	return l
}

// laid is a device that has these sectors.
func laid(t *testing.T, sectors ...[]byte) *sector.Device {
	t.Helper()
	d := device(t, len(sectors))
	for i, b := range sectors {
		if e := d.Write(i, b); e != api.OK {
			t.Fatal("Write:", e)
		}
	}
	d.Flush()
	return d
}

// stands looks at all sectors of a device.
func stands(t *testing.T, name string, d *sector.Device, parts ...[][]byte) {
	t.Helper()
	got, want := stored(t, d), slices.Concat(parts...)
	for i := range max(len(got), len(want)) {
		if i >= len(got) || i >= len(want) || !bytes.Equal(got[i], want[i]) {
			t.Errorf("%s: sector %d: %x, not %x", name, i, got[i:min(i+1, len(got))], want[i:min(i+1, len(want))])
		}
	}
}

// P4.1: what stands on a device of two halves of three sectors, and one left over.
func TestWhatStandsOnTheDevice(t *testing.T) {
	none, over := make([]byte, 64), [][]byte{sectorOf("left over", 9)}
	d := laid(t, none, none, none, none, none, none, none, none, over[0])
	l := open(t, d)
	empty := halfOf(nil, 3)
	stands(t, "opened", d, [][]byte{none, headOf(1, 0)}, empty, empty, over)
	put(t, l, "a", strings.Repeat("b", 70))
	stands(t, "appended", d, [][]byte{none, headOf(1, 0)}, halfOf(streamOf("a", strings.Repeat("b", 70)), 3), empty, over)
	compact(t, l, "x", strings.Repeat("y", 57))
	second := halfOf(streamOf("x", strings.Repeat("y", 57)), 3)
	stands(t, "compacted", d, [][]byte{headOf(2, 1), headOf(1, 0)}, halfOf(streamOf("a", strings.Repeat("b", 70)), 3), second, over)
	put(t, l, strings.Repeat("z", 58))
	second = halfOf(streamOf("x", strings.Repeat("y", 57), strings.Repeat("z", 58)), 3)
	stands(t, "appended again", d, [][]byte{headOf(2, 1), headOf(1, 0)}, halfOf(streamOf("a", strings.Repeat("b", 70)), 3), second, over)
	open(t, d)
	stands(t, "opened again", d, [][]byte{headOf(2, 1), headOf(3, 0)}, second, second, over)
	compact(t, open(t, d))
	stands(t, "emptied", d, [][]byte{headOf(4, 1), headOf(5, 0)}, empty, second, over)
}

// P4.1: to put down anew is to write a half, Flush, the head, Flush; to append is to write what has some of it, rising.
func TestCallsOnTheDevice(t *testing.T) {
	d := device(t, 13)
	writes, flushes := 0, 0
	counts := func(name string, w, f int) {
		t.Helper()
		writes, flushes = writes+w, flushes+f
		if gotW, gotF := d.Counts(); gotW != writes || gotF != flushes {
			t.Errorf("%s: %d, %d, not %d, %d", name, gotW, gotF, writes, flushes)
			writes, flushes = gotW, gotF
		}
	}
	l := open(t, d)
	counts("Open", 6, 2)
	put(t, l, "a")
	counts("a piece of a sector", 1, 0)
	put(t, l, strings.Repeat("b", 56))
	counts("the rest of it", 1, 0)
	put(t, l, strings.Repeat("c", 60))
	counts("a whole one", 1, 0)
	put(t, l, strings.Repeat("d", 61))
	counts("one and a byte", 2, 0)
	put(t, l, strings.Repeat("e", 90))
	counts("two pieces", 2, 0)
	l.Append(make([]byte, 99))
	counts("no room", 0, 0)
	sync(t, l)
	counts("Sync", 0, 1)
	compact(t, l, "a")
	counts("Compact", 6, 2)
	l.Compact([][]byte{make([]byte, 500)})
	counts("Compact without room", 0, 0)
	for range l.Entries() {
		l.Room()
	}
	counts("looking", 0, 0)
}

// P4.1: in which order sectors are written.
func TestOrderOfWrites(t *testing.T) {
	const half = 4
	for calls := range half + 4 {
		d := device(t, 2+2*half)
		l := open(t, d)
		d.Stop(calls)
		l.Compact([][]byte{[]byte("x")})
		want := []int{6, 7, 8, 9}[:min(calls, half)]
		switch {
		case calls == half+2:
			want = []int{0}
		case calls > half:
			want = nil
		}
		if got := slices.Collect(d.Dirty()); !slices.Equal(got, want) {
			t.Errorf("Compact behind %d calls: %v", calls, got)
		}
	}
	for calls := range 4 {
		d := device(t, 2+2*half)
		l := open(t, d)
		put(t, l, strings.Repeat("a", 65))
		sync(t, l)
		d.Stop(calls)
		l.Append(make([]byte, 160))
		if got := slices.Collect(d.Dirty()); !slices.Equal(got, []int{3, 4, 5}[:calls]) {
			t.Errorf("Append behind %d calls: %v", calls, got)
		}
	}
}

// twoHalves is a device with these heads, and an entry in each half that tells which one it is.
func twoHalves(t *testing.T, zero, one []byte) *sector.Device {
	t.Helper()
	return laid(t, slices.Concat([][]byte{zero, one}, halfOf(streamOf("zero"), 2), halfOf(streamOf("one"), 2))...)
}

// changed is b with another byte at i.
func changed(b []byte, i int, by byte) []byte {
	b = bytes.Clone(b)
	b[i] ^= by
	return b
}

// P4.1: the right head is that of the greatest generation, wherever it stands and whichever half it tells.
func TestTheRightHead(t *testing.T) {
	none := make([]byte, 64)
	for _, c := range []struct {
		name       string
		zero, one  []byte
		generation int
		entry      string
	}{
		{"1", none, headOf(1, 0), 1, "zero"},
		{"1, in half 1", none, headOf(1, 1), 1, "one"},
		{"2", headOf(2, 1), none, 2, "one"},
		{"2 and 1", headOf(2, 1), headOf(1, 0), 2, "one"},
		{"2 and 3", headOf(2, 1), headOf(3, 0), 3, "zero"},
		{"2 and 3, both in half 1", headOf(2, 1), headOf(3, 1), 3, "one"},
		{"256 and 255", headOf(256, 0), headOf(255, 1), 256, "zero"},
		{"far from one another", headOf(1<<40, 0), headOf(7, 1), 1 << 40, "zero"},
		{"a great one", none, headOf(math.MaxInt-2, 1), math.MaxInt - 2, "one"},
	} {
		d := twoHalves(t, c.zero, c.one)
		l := open(t, d)
		has(t, d, l, c.entry)
		if l.Generation() != c.generation+1 || l.Sure() != 1 {
			t.Errorf("%s: generation %d, sure %d", c.name, l.Generation(), l.Sure())
		}
		b, _ := d.Read((c.generation + 1) % 2)
		half := byte(1)
		if c.entry == "one" {
			half = 0
		}
		if !bytes.Equal(b, headOf(uint64(c.generation+1), half)) {
			t.Errorf("%s: %x", c.name, b)
		}
	}
}

// P4.1: what is no head is passed over; without any the log is empty, of generation 0, in half 1.
func TestWhatIsNoHead(t *testing.T) {
	one, two := headOf(1, 1), headOf(2, 0)
	wrong := map[string][2][]byte{
		"zeros":                       {make([]byte, 64), make([]byte, 64)},
		"in the other one's sector":   {one, two},
		"generation 0":                {headOf(0, 0), headOf(0, 1)},
		"half 2":                      {headOf(2, 2), headOf(1, 2)},
		"half 255":                    {headOf(2, 255), headOf(1, 255)},
		"half 128":                    {headOf(2, 128), headOf(1, 129)},
		"not the same twice":          {append(two[:32:32], headOf(4, 0)[:32]...), append(one[:32:32], headOf(1, 0)[:32]...)},
		"once alone":                  {append(two[:32:32], make([]byte, 32)...), append(make([]byte, 32), one[:32]...)},
		"a generation above all ints": {headOf(1<<63, 0), headOf(1<<63+1, 1)},
		"all ones":                    {bytes.Repeat([]byte{255}, 64), bytes.Repeat([]byte{255}, 64)},
	}
	for i := 9; i < 32; i++ {
		both := func(b []byte) []byte { return changed(changed(b, i, 1), i+32, 1) }
		wrong["a byte that is not 0 "+strconv.Itoa(i)] = [2][]byte{both(two), both(one)}
	}
	for i := range 64 {
		wrong["a broken byte "+strconv.Itoa(i)] = [2][]byte{changed(two, i, 128), changed(one, i, 2)}
	}
	for name, heads := range wrong {
		d := twoHalves(t, heads[0], heads[1])
		l := open(t, d)
		has(t, d, l)
		if l.Generation() != 1 {
			t.Errorf("%s: generation %d", name, l.Generation())
		}
		stands(t, name, d, [][]byte{heads[0], headOf(1, 0)}, halfOf(nil, 2), halfOf(streamOf("one"), 2))
		d = twoHalves(t, headOf(2, 1), heads[1])
		has(t, d, open(t, d), "one")
	}
}

// P4.1: the stream of a half ends at the first sector that is not used up.
func TestStreamOfAHalf(t *testing.T) {
	full := string(streamOf(strings.Repeat("f", 60)))
	entry, f := string(streamOf("abc")), strings.Repeat("f", 60)
	for _, c := range []struct {
		name    string
		sectors [3][]byte
		want    []string
	}{
		{"used up", [3][]byte{sectorOf(full, 63), sectorOf(full, 63), sectorOf(full, 63)}, []string{f, f, f}},
		{"an end", [3][]byte{sectorOf(full, 63), sectorOf(entry, 6), sectorOf(entry, 6)}, []string{f, "abc"}},
		{"nothing used", [3][]byte{sectorOf(entry, 0), sectorOf(entry, 6), sectorOf(entry, 6)}, nil},
		{"an end with nothing", [3][]byte{sectorOf(full, 63), sectorOf(entry, 0), sectorOf(entry, 6)}, []string{f}},
		{"62 used", [3][]byte{sectorOf(full[:62], 62), sectorOf(entry, 6), sectorOf(entry, 6)}, nil},
		{"64 used", [3][]byte{sectorOf(entry, 64), sectorOf(entry, 6), sectorOf(entry, 6)}, nil},
		{"255 used", [3][]byte{sectorOf(full, 63), sectorOf(entry, 255), sectorOf(entry, 6)}, []string{f}},
		{"128 used", [3][]byte{sectorOf(full, 63), sectorOf(full, 63), sectorOf(full, 128)}, []string{f, f}},
		{"less used than there is", [3][]byte{sectorOf(entry+entry, 6), sectorOf(entry, 6), sectorOf(entry, 6)}, []string{"abc"}},
	} {
		none := make([]byte, 64)
		d := laid(t, none, headOf(1, 0), c.sectors[0], c.sectors[1], c.sectors[2], sectorOf("unlike", 6), none, none)
		l := open(t, d)
		has(t, d, l, c.want...)
		stands(t, c.name, d, [][]byte{headOf(2, 1), headOf(1, 0)}, c.sectors[:], halfOf(streamOf(c.want...), 3))
	}
}

// P4.1: entries are whole ones of at most MaxFrame bytes; what stands behind the first one that is not is let go.
func TestEntriesOfAStream(t *testing.T) {
	// A device with room for more than MaxFrame bytes.
	const half = 1100
	most := strings.Repeat("m", api.MaxFrame)
	for _, c := range []struct {
		name   string
		stream []byte
		want   []string
	}{
		{"nothing", nil, nil},
		{"one byte of three", []byte{0}, nil},
		{"two bytes of three", append(streamOf("a"), 0, 0), []string{"a"}},
		{"empty ones", make([]byte, 9), []string{"", "", ""}},
		{"empty ones, and two bytes", make([]byte, 8), []string{"", ""}},
		{"cut off", append(streamOf("a", "b"), 0, 0, 5, 'c', 'c', 'c', 'c'), []string{"a", "b"}},
		{"not cut off", append(streamOf("a", "b"), 0, 0, 4, 'c', 'c', 'c', 'c'), []string{"a", "b", "cccc"}},
		{"the most", streamOf("a", most, "b"), []string{"a", most, "b"}},
		{"more than the most", streamOf("a", most+"m", "b"), []string{"a"}},
		{"a size of three bytes", append(streamOf("a"), 255, 255, 255), []string{"a"}},
	} {
		sectors := slices.Concat([][]byte{headOf(2, 1), headOf(1, 0)}, halfOf(nil, half), halfOf(c.stream, half))
		d := laid(t, sectors...)
		l := open(t, d)
		has(t, d, l, c.want...)
		stands(t, c.name, d, [][]byte{headOf(2, 1), headOf(3, 0)}, halfOf(streamOf(c.want...), half), sectors[2+half:])
		put(t, l, "behind")
		has(t, d, open(t, d), append(c.want, "behind")...)
	}
}
