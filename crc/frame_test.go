package crc_test

import (
	"bytes"
	"encoding/binary"
	"math/rand"
	"testing"

	"entrepot/api"
	"entrepot/crc"
)

// byHand is a frame that says it has size bytes, of b, with seal.
func byHand(size uint32, seal uint64, b []byte) []byte {
	f := binary.BigEndian.AppendUint32(nil, size+1)
	f = binary.BigEndian.AppendUint32(f, plainSum(0, b))
	f = binary.BigEndian.AppendUint64(f, crc.Mix(seal, b))
	return append(f, b...)
}

func framed(t *testing.T, seal uint64, b []byte) ([]byte, uint64) {
	t.Helper()
	f, next, e := crc.New().Frame(seal, b)
	if e != api.OK {
		t.Fatal("Frame:", e)
	}
	return f, next
}

// P2.2
func TestFrame(t *testing.T) {
	f, next := framed(t, 7, []byte("123456789"))
	if want := "\x00\x00\x00\x0a\xe3\x06\x92\x83\xcf\xcf\x89\xdf\xb8\xe3\xa9\xe5123456789"; string(f) != want || next != 0xCFCF89DFB8E3A9E5 {
		t.Errorf("%x, %016X", f, next)
	}
	for _, b := range [][]byte{nil, {}} {
		f, next := framed(t, 0, b)
		if want := "\x00\x00\x00\x01\x00\x00\x00\x00\xc3\x14\x23\x55\xe1\xa0\x46\x8b"; string(f) != want || next != 0xC3142355E1A0468B {
			t.Errorf("nothing: %x, %016X", f, next)
		}
	}
	var none *crc.Table
	for _, size := range []int{0, 1, 7, 8, 9, 255, 256, api.MaxFrame - 1, api.MaxFrame} {
		b := count(size)
		f, next := framed(t, 99, b)
		if !bytes.Equal(f, byHand(uint32(size), 99, b)) || next != crc.Mix(99, b) {
			t.Errorf("of %d bytes: %d bytes, %016X", size, len(f), next)
		}
		if g, seal, e := none.Frame(99, b); !bytes.Equal(f, g) || seal != next || e != api.OK {
			t.Errorf("of a nil Table: %d bytes, %016X, %d", len(g), seal, e)
		}
	}
}

// P2.2: MaxFrame bytes are framed, one more is too many.
func TestFrameOfTooManyBytes(t *testing.T) {
	var none *crc.Table
	for _, table := range []*crc.Table{crc.New(), none} {
		for _, size := range []int{api.MaxFrame + 1, 1 << 20} {
			if f, next, e := table.Frame(5, make([]byte, size)); len(f) != 0 || next != 0 || e != api.ErrLong {
				t.Errorf("%d bytes: %d, %d, %d", size, len(f), next, e)
			}
		}
	}
}

// P2.2, P2.3: what was framed is opened, whatever stands behind it.
func TestOpen(t *testing.T) {
	var none *crc.Table
	for _, table := range []*crc.Table{crc.New(), none} {
		for _, size := range []int{0, 1, 8, 300, api.MaxFrame} {
			b := count(size)
			f, next := framed(t, 1<<63, b)
			for _, behind := range []string{"", "\x00", "more"} {
				got, seal, e := table.Open(1<<63, append(bytes.Clone(f), behind...))
				if !bytes.Equal(got, b) || seal != next || e != api.OK {
					t.Errorf("%d bytes: %d, %016X, %d", size, len(got), seal, e)
				}
			}
		}
	}
}

func refused(t *testing.T, name string, seal uint64, f []byte) {
	t.Helper()
	var none *crc.Table
	for _, table := range []*crc.Table{crc.New(), none} {
		if b, next, e := table.Open(seal, f); len(b) != 0 || next != 0 || e != api.ErrCode {
			t.Errorf("%s: %x, %d, %d", name, b, next, e)
		}
		if l, last, used := table.All(seal, f); len(l) != 0 || last != seal || used != 0 {
			t.Errorf("%s: %x, %d, %d", name, l, last, used)
		}
	}
}

// P2.2, P2.3
func TestOpenRefusesWhatIsNoFrame(t *testing.T) {
	f, _ := framed(t, 7, []byte("twelve bytes"))
	for cut := range len(f) {
		refused(t, "cut off", 7, f[:cut])
	}
	for i := range f {
		for bit := range 8 {
			f[i] ^= 1 << bit
			refused(t, "a broken byte", 7, f)
			f[i] ^= 1 << bit
		}
	}
	refused(t, "another seal", 8, f)
	refused(t, "nil", 7, nil)
	refused(t, "zeros", 7, make([]byte, 64))
	refused(t, "bytes ahead of it", 7, append([]byte{0}, f...))
	refused(t, "no size", 7, byHand(0xFFFFFFFF, 7, nil))
	refused(t, "the greatest size", 7, byHand(0xFFFFFFFE, 7, count(100)))
	refused(t, "more bytes than MaxFrame", 7, byHand(api.MaxFrame+1, 7, count(api.MaxFrame+1)))
	refused(t, "a size of fewer bytes", 7, byHand(11, 7, []byte("twelve bytes")))
	refused(t, "a size of more bytes", 7, byHand(13, 7, []byte("twelve bytes")))
}

// P2.2: sum and mix are both looked at, each for itself.
func TestOpenLooksAtSumAndMix(t *testing.T) {
	b := []byte("some bytes")
	f := byHand(uint32(len(b)), 7, b)
	binary.BigEndian.PutUint32(f[4:], plainSum(0, b)^1)
	refused(t, "another sum", 7, f)
	f = byHand(uint32(len(b)), 7, b)
	binary.BigEndian.PutUint64(f[8:], crc.Mix(7, b)^1<<63)
	refused(t, "another mix", 7, f)
}

// chain is frames one behind the other, and where each begins and the last one ends.
func chain(t *testing.T, seal uint64, texts ...string) (all []byte, ends []int, seals []uint64) {
	t.Helper()
	ends, seals = []int{0}, []uint64{seal}
	for _, s := range texts {
		f, next := framed(t, seal, []byte(s))
		all, seal = append(all, f...), next
		ends, seals = append(ends, len(all)), append(seals, seal)
	}
	return all, ends, seals
}

// P2.2, P2.3: cut off anywhere, the frames that are whole are there.
func TestAllTakesFrameByFrame(t *testing.T) {
	var none *crc.Table
	texts := []string{"one", "", "", "four", string(count(200))}
	all, ends, seals := chain(t, 7, texts...)
	for _, table := range []*crc.Table{crc.New(), none} {
		for cut := range len(all) + 1 {
			whole := 0
			for whole < len(texts) && ends[whole+1] <= cut {
				whole++
			}
			l, last, used := table.All(7, all[:cut])
			if len(l) != whole || last != seals[whole] || used != ends[whole] {
				t.Fatalf("cut at %d: %d frames, %016X, %d", cut, len(l), last, used)
			}
			for i, b := range l {
				if string(b) != texts[i] {
					t.Fatalf("frame %d: %x", i, b)
				}
			}
		}
	}
}

// P2.2
func TestAllEndsAtWhatIsNoNextFrame(t *testing.T) {
	table := crc.New()
	all, ends, seals := chain(t, 7, "one", "two", "three")
	check := func(name string, b []byte, whole int) {
		t.Helper()
		l, last, used := table.All(7, b)
		if len(l) != whole || last != seals[whole] || used != ends[whole] {
			t.Errorf("%s: %d frames, %016X, %d", name, len(l), last, used)
		}
	}
	check("zeros behind", append(bytes.Clone(all), make([]byte, 40)...), 3)
	again, _ := framed(t, 7, []byte("one"))
	check("one with the first seal behind", append(bytes.Clone(all), again...), 3)
	check("one twice", append(bytes.Clone(all[:ends[1]]), all[:ends[1]]...), 1)
	check("one left out", append(bytes.Clone(all[:ends[1]]), all[ends[2]:]...), 1)
	check("the first one left out", all[ends[1]:], 0)
	broken := bytes.Clone(all)
	broken[ends[1]+api.FrameTop] ^= 1
	check("the second one broken", broken, 1)
	check("nothing", nil, 0)
	for _, seal := range []uint64{0, 8, 1<<64 - 1} {
		if l, last, used := table.All(seal, all); len(l) != 0 || last != seal || used != 0 {
			t.Errorf("seal %d: %d frames, %d, %d", seal, len(l), last, used)
		}
	}
}

// R3
func TestFramesShareNothing(t *testing.T) {
	table := crc.New()
	all, _, seals := chain(t, 7, "one", "two", "three")
	before := string(all)
	l, _, _ := table.All(7, all)
	body, _, _ := table.Open(7, all)
	frame, _ := framed(t, seals[2], l[2])
	if want := before[len(before)-len(frame):]; string(frame) != want {
		t.Errorf("%x, not %x", frame, want)
	}
	for _, b := range append(l, body, frame) {
		clear(b[:cap(b)])
		if string(all) != before {
			t.Fatal("an answer lies in what was handed in")
		}
	}
	l, _, _ = table.All(7, all)
	clear(all)
	if string(l[0]) != "one" || string(l[1]) != "two" || string(l[2]) != "three" {
		t.Errorf("answers changed with what was handed in: %q", l)
	}
	clear(l[0][:cap(l[0])])
	if string(l[1]) != "two" || string(l[2]) != "three" {
		t.Errorf("answers changed with one another: %q", l)
	}
}

// R3: the room behind a list's end is neither read nor written.
func TestFramesLeaveTheRoomBehind(t *testing.T) {
	table := crc.New()
	f, _ := framed(t, 7, []byte("whole"))
	if _, _, e := table.Open(7, f[:len(f)-1]); e != api.ErrCode {
		t.Error("Open saw what lies behind the end")
	}
	if l, _, _ := table.All(7, f[:len(f)-1]); len(l) != 0 {
		t.Error("All saw what lies behind the end")
	}
	room := []byte("wholeREST")
	if g, _, _ := table.Frame(7, room[:5]); !bytes.Equal(g, f) || string(room) != "wholeREST" {
		t.Errorf("%x, %q", g, room)
	}
}

// R1
func TestOpenEndsOnAnyBytes(t *testing.T) {
	table := crc.New()
	r := rand.New(rand.NewSource(5))
	for range 20000 {
		b := make([]byte, r.Intn(40))
		r.Read(b)
		if len(b) > 4 && r.Intn(2) == 0 {
			b[0], b[1], b[2] = 0, 0, 0
		}
		seal := r.Uint64()
		if _, _, e := table.Open(seal, b); e != api.ErrCode {
			t.Fatalf("%x is a frame", b)
		}
		if l, last, used := table.All(seal, b); len(l) != 0 || last != seal || used != 0 {
			t.Fatalf("%x has frames", b)
		}
	}
}
