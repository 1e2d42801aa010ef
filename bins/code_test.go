package bins_test

import (
	"bytes"
	"math"
	"math/rand"
	"slices"
	"strings"
	"testing"

	"entrepot/api"
	"entrepot/bins"
	"entrepot/cells"
	"entrepot/lists"
)

// P27.5: bytes that were reckoned by hand.
func TestPack(t *testing.T) {
	f := fresh(t, api.Bin{Number: 1, Zone: 2, Room: 200}, api.Bin{Number: 300, Zone: 15, Room: 5})
	packs := func(want string) {
		t.Helper()
		if b := f.Pack(); string(b) != want {
			t.Fatalf("%q, not %q", b, want)
		}
		again, e := bins.Unpack([]byte(want))
		if e != api.OK || string(again.Pack()) != want {
			t.Fatalf("%q, %d, not %q", again.Pack(), e, want)
		}
	}
	packs("\x02\x01\x02\x81\xc8\x00\x82\x01\x2c\x0f\x05\x00")
	puts(t, f, "bc", 130, "1 bc 130", api.OK)
	packs("\x02\x01\x02\x81\xc8\x01\x02bc\x81\x82\x82\x01\x2c\x0f\x05\x00")
	counts(t, f, 300, "a", 3, 3, api.OK)
	counts(t, f, 1, "a", 1, 1, api.OK)
	packs("\x02\x01\x02\x81\xc8\x02\x01a\x01\x02bc\x81\x82\x82\x01\x2c\x0f\x05\x01\x01a\x03")
}

// long are 16 goods with the longest names.
func long(n int) []api.Item {
	var l []api.Item
	for i := range 16 {
		l = append(l, api.Item{Good: "abcdefghijklmno" + string(rune('a'+i)), N: n})
	}
	return l
}

// P27.5: floors at the edges of what may be.
func TestUnpackAtTheEdges(t *testing.T) {
	var full, bare []plain
	for i := range 64 {
		b := api.Bin{Number: 4033 + i, Zone: 15 - i%16, Room: most}
		full = append(full, plain{b, long(most / 16)})
		bare = append(bare, plain{Bin: b})
	}
	for _, l := range [][]plain{
		{bin(1, 0, 1, "")},
		{bin(1, 0, 1, "a 1")},
		{bin(4096, 15, most, "")},
		{plain{api.Bin{Number: 4096, Zone: 15, Room: most}, []api.Item{{Good: "a", N: most}}}},
		{bin(1, 1, 3, "a 1, b 2"), bin(2, 0, 1, ""), bin(4095, 1, 5, "a 5"), bin(4096, 0, 5, "z 1")},
		{sixteen(1, 16), sixteen(2, 17)},
		full, bare, full[1:], full[:63],
	} {
		has(t, "at the edge", floor(t, l...), l...)
	}
}

func notUnpacked(t *testing.T, name string, b []byte) {
	t.Helper()
	if f, e := bins.Unpack(b); f != nil || e != api.ErrCode {
		t.Errorf("%s: Unpack of %q = %v, %d", name, b, f, e)
	}
}

// P27.5
func TestUnpackOfNoneOrTooMany(t *testing.T) {
	some := func(n int) []plain {
		var l []plain
		for i := range n {
			l = append(l, bin(1+i, 0, 9, "a 1"))
		}
		return l
	}
	notUnpacked(t, "none", code())
	for _, n := range []int{65, 66, 100, 128, 4000} {
		notUnpacked(t, "too many", code(some(n)...))
	}
	notUnpacked(t, "too many told", append(cells.Num(65), code(some(64)...)[1:]...))
	notUnpacked(t, "more told than there are", append(cells.Num(64), code(some(63)...)[1:]...))
	notUnpacked(t, "fewer told than there are", append(cells.Num(63), code(some(64)...)[1:]...))
	notUnpacked(t, "none told", append(cells.Num(0), code(some(1)...)[1:]...))
	notUnpacked(t, "fewer than none", append(cells.Num(-1), code(some(1)...)[1:]...))
}

// P27.5: each thing that no bin is, in the first bin and in ones behind.
func TestUnpackRefusesBins(t *testing.T) {
	wrong := []plain{bin(5, 0, 2, "a 3"), bin(5, 0, 3, "a 2, b 2"), bin(5, 0, 1, "a 1, b 1"), {api.Bin{Number: 5, Room: 15}, lists.Many(0, 16, 1)}, {api.Bin{Number: 5, Room: most}, long(most)}, {api.Bin{Number: 5, Room: most}, long(most/16 + 1)}}
	for _, number := range noBins() {
		wrong = append(wrong, bin(number, 0, 9, "a 1"), bin(number, 0, 9, ""))
	}
	for _, zone := range []int{-1, math.MinInt, 16, math.MaxInt} {
		wrong = append(wrong, bin(5, zone, 9, "a 1"), bin(5, zone, 9, ""))
	}
	for _, room := range noPieces() {
		wrong = append(wrong, bin(5, 0, room, "a 1"), bin(5, 0, room, ""))
	}
	for _, in := range []string{"a 0", "a -1", "b 1, a 1", "a 1, a 1", "A 1", "a 1, b 0", "abcdefghijklmnopq 1"} {
		wrong = append(wrong, bin(5, 0, 9, in))
	}
	wrong = append(wrong, plain{api.Bin{Number: 5, Room: most}, []api.Item{{N: 1}}}, plain{api.Bin{Number: 5, Room: most}, []api.Item{{Good: "a", N: most + 1}}}, plain{api.Bin{Number: 5, Room: 99}, lists.Many(0, 17, 1)})
	first, last := bin(4, 0, 3, "a 3"), bin(6, 1, 9, "")
	for _, x := range wrong {
		notUnpacked(t, "alone", code(x))
		notUnpacked(t, "first", code(x, last))
		notUnpacked(t, "last", code(first, x))
		notUnpacked(t, "in the middle", code(first, x, last))
	}
	// What stands around them may be.
	has(t, "both", floor(t, first, last), first, last)
}

// P27.5
func TestUnpackRefusesNumbersThatDoNotRise(t *testing.T) {
	for _, numbers := range [][]int{{1, 1}, {2, 1}, {1, 2, 2}, {1, 3, 2}, {5, 5, 6}, {4096, 1}, {4096, 4096}, {1, 2, 3, 4, 1}} {
		var l []plain
		for _, number := range numbers {
			l = append(l, bin(number, 0, 9, "a 1"))
		}
		notUnpacked(t, "numbers that do not rise", code(l...))
	}
}

// P27.5: what is cut off, goes on, or is no cell.
func TestUnpackRefusesOtherBytes(t *testing.T) {
	b := code(bin(3, 0, 200, "a 5, bc 128"), bin(301, 7, 5, "a 5"))
	for size := range b {
		notUnpacked(t, "cut off", b[:size])
	}
	for _, more := range []string{"\x00", "\x01", "\xff", string(b), strings.Repeat("\x00", 1000), strings.Repeat("\x00", api.MaxCode)} {
		notUnpacked(t, "more behind", append(slices.Clone(b), more...))
	}
	notUnpacked(t, "nothing", nil)
	whole := "\x01\x05\x00\x09\x01\x01a\x03"
	if _, e := bins.Unpack([]byte(whole)); e != api.OK {
		t.Fatal(e)
	}
	for at := range whole {
		for _, cell := range []string{"", "\x80", "\x81" + whole[at:at+1], "\x90", "\x9f", "\xff", "\x88\x7f\xff\xff\xff\xff\xff\xff\xff", "\x98\x7f\xff\xff\xff\xff\xff\xff\xff"} {
			notUnpacked(t, "no such cell", []byte(whole[:at]+cell+whole[at+1:]))
		}
	}
}

// P27.5: whatever is taken is what is packed.
func TestWhatIsUnpackedIsPacked(t *testing.T) {
	r := rand.New(rand.NewSource(275))
	start := code(bin(3, 0, 200, "a 5, bc 128"), bin(30, 7, 5, "a 5"), bin(31, 1, 1, ""))
	taken := 0
	for range 200000 {
		b := slices.Clone(start)
		for range 1 + r.Intn(2) {
			at := r.Intn(len(b))
			switch r.Intn(3) {
			case 0:
				b[at] = byte(r.Intn(256))
			case 1:
				b = slices.Delete(b, at, at+1)
			default:
				b = slices.Insert(b, at, byte(r.Intn(140)))
			}
		}
		f, e := bins.Unpack(b)
		if e == api.OK {
			taken++
			if !bytes.Equal(f.Pack(), b) {
				t.Fatalf("%q is packed as %q", b, f.Pack())
			}
			last := 0
			for x := range f.Bins() {
				if x.Number <= last || x.Number > 4096 || x.Zone < 0 || x.Zone > 15 || x.Room < 1 || f.Left(x.Number) < 0 {
					t.Fatalf("%q: %v", b, x)
				}
				last = x.Number
			}
		} else if f != nil || e != api.ErrCode {
			t.Fatal(f, e)
		}
	}
	if taken < 1000 {
		t.Error(taken)
	}
}
