package sector_test

import (
	"bytes"
	"math"
	"math/rand"
	"slices"
	"testing"

	"entrepot/api"
	"entrepot/sector"
)

// P3.2: the example of the chapter.
func TestCrashKeepsWhatItIsTold(t *testing.T) {
	d := made(t, 2)
	write(t, d, 0, all(1))
	write(t, d, 1, all(2))
	crash(t, d, []int{1}, -1, 0)
	reads(t, d, 0, all(0))
	reads(t, d, 1, all(2))
	dirty(t, d)
	// What was kept is sure.
	crash(t, d, nil, -1, 0)
	reads(t, d, 1, all(2))
}

// P3.2: of each subset of dirty sectors.
func TestCrashOfEachSubset(t *testing.T) {
	const sectors = 4
	for set := range 1 << sectors {
		d := made(t, sectors+1)
		var keep []int
		for i := range sectors {
			write(t, d, i, all(byte(10+i)))
		}
		flush(t, d)
		for i := range sectors {
			write(t, d, i, all(99))
			write(t, d, i, all(byte(20+i)))
			if set>>i&1 == 1 {
				keep = append(keep, i)
			}
		}
		crash(t, d, keep, -1, 64)
		for i := range sectors {
			want := all(byte(10 + i))
			if slices.Contains(keep, i) {
				want = all(byte(20 + i))
			}
			reads(t, d, i, want)
		}
		reads(t, d, sectors, all(0))
		dirty(t, d)
	}
}

// P3.2: of keep only what is dirty, in any order, as often as it is there.
func TestCrashLetsGoWhatIsNotDirty(t *testing.T) {
	d := made(t, 4)
	write(t, d, 0, all(1))
	flush(t, d)
	write(t, d, 1, all(2))
	write(t, d, 2, all(3))
	crash(t, d, []int{2, math.MaxInt, 0, -1, 3, 2, 4, math.MinInt}, 3, 64)
	reads(t, d, 0, all(1))
	reads(t, d, 1, all(0))
	reads(t, d, 2, all(3))
	reads(t, d, 3, all(0))
	counts(t, d, 3, 1)
}

// P3.2: each part that a torn sector may have.
func TestCrashTearsOneSector(t *testing.T) {
	for part := range api.SectorBytes + 1 {
		d := made(t, 3)
		for i := range 3 {
			write(t, d, i, all(1))
		}
		flush(t, d)
		for i := range 3 {
			write(t, d, i, all(8))
			write(t, d, i, all(2))
		}
		crash(t, d, []int{2}, 1, part)
		reads(t, d, 0, all(1))
		reads(t, d, 1, append(all(2)[:part], all(1)[part:]...))
		reads(t, d, 2, all(2))
		dirty(t, d)
		crash(t, d, nil, -1, 0)
		reads(t, d, 1, append(all(2)[:part], all(1)[part:]...))
	}
}

// P3.2: one that is kept is not torn; one that is clean, or is none, neither.
func TestCrashTearsOnlyWhatIsDirtyAndNotKept(t *testing.T) {
	d := made(t, 2)
	write(t, d, 0, all(1))
	crash(t, d, []int{0}, 0, 5)
	reads(t, d, 0, all(1))
	crash(t, d, nil, 0, 5)
	reads(t, d, 0, all(1))
	for _, torn := range []int{-1, 2, math.MaxInt, math.MinInt} {
		write(t, d, 1, all(7))
		crash(t, d, nil, torn, 64)
		reads(t, d, 0, all(1))
		reads(t, d, 1, all(0))
	}
}

// P3.2: nothing happens, whatever is kept or torn.
func TestCrashRefuses(t *testing.T) {
	for _, part := range []int{-1, api.SectorBytes + 1, math.MaxInt, math.MinInt} {
		for _, torn := range []int{-1, 0, 1, 9} {
			d := made(t, 2)
			write(t, d, 0, all(1))
			d.Stop(1)
			if e := d.Crash([]int{0}, torn, part); e != api.ErrArg {
				t.Errorf("Crash(0, %d, %d): %d", torn, part, e)
			}
			dirty(t, d, 0)
			write(t, d, 1, all(1))
			if e := d.Crash(nil, torn, part); e != api.ErrArg || !d.Off() {
				t.Errorf("Crash(nil, %d, %d): %d, %v", torn, part, e, d.Off())
			}
			dirty(t, d, 0, 1)
			crash(t, d, []int{0}, -1, 0)
			reads(t, d, 0, all(1))
			reads(t, d, 1, all(0))
		}
	}
}

// P3.2: so many Writes and Flushes, then no more.
func TestStopLeavesSoManyCalls(t *testing.T) {
	for calls := range 6 {
		d := made(t, 1)
		d.Stop(calls)
		for i := range calls {
			if d.Off() {
				t.Fatalf("Stop(%d): the power is gone behind %d calls", calls, i)
			}
			reads(t, d, 0, all(byte((i+1)/2)))
			if i%2 == 0 {
				write(t, d, 0, all(byte(i/2+1)))
			} else {
				flush(t, d)
			}
		}
		for range 3 {
			if !d.Off() {
				t.Errorf("Stop(%d): the power is there", calls)
			}
			if e := d.Write(0, all(9)); e != api.ErrOff {
				t.Errorf("Stop(%d): Write %d", calls, e)
			}
			if e := d.Flush(); e != api.ErrOff {
				t.Errorf("Stop(%d): Flush %d", calls, e)
			}
			if b, e := d.Read(0); len(b) != 0 || e != api.ErrOff {
				t.Errorf("Stop(%d): Read %x, %d", calls, b, e)
			}
		}
		crash(t, d, nil, -1, 0)
		reads(t, d, 0, all(byte(calls/2)))
		counts(t, d, (calls+1)/2, calls/2)
	}
}

// P3.2: only Writes and Flushes that are done are among the calls.
func TestStopCountsWritesAndFlushesAlone(t *testing.T) {
	d := made(t, 2)
	d.Stop(2)
	for range 9 {
		d.Read(0)
		d.Dirty()
		d.Len()
		d.Counts()
		d.Off()
		d.Write(2, all(1))
		d.Write(0, nil)
		d.Crash(nil, 0, 65)
	}
	write(t, d, 0, all(1))
	flush(t, d)
	if !d.Off() {
		t.Error("the power is there")
	}
}

// P3.2: below 0 the power does not go any more; where it is gone, it is there again, and what is unsure still is.
func TestStopIsToldAnew(t *testing.T) {
	for _, never := range []int{-1, -2, math.MinInt} {
		d := made(t, 2)
		write(t, d, 0, all(1))
		d.Stop(1)
		d.Stop(never)
		for range 20 {
			write(t, d, 1, all(2))
		}
		d.Stop(0)
		if !d.Off() {
			t.Error("Stop(0): the power is there")
		}
		d.Stop(never)
		if d.Off() {
			t.Errorf("Stop(%d): the power is gone", never)
		}
		dirty(t, d, 0, 1)
		reads(t, d, 0, all(1))
		d.Stop(0)
		d.Stop(2)
		reads(t, d, 1, all(2))
		write(t, d, 0, all(3))
		d.Stop(2)
		write(t, d, 0, all(4))
		flush(t, d)
		if !d.Off() {
			t.Error("behind Stop(2): the power is there")
		}
		d.Stop(math.MaxInt)
		reads(t, d, 0, all(4))
		write(t, d, 0, all(5))
		if d.Off() {
			t.Error("Stop(MaxInt): the power is gone")
		}
	}
}

// P3.2: behind a crash the power is there, and no Stop holds.
func TestCrashBringsThePowerBack(t *testing.T) {
	for _, calls := range []int{0, 1, 2} {
		d := made(t, 1)
		d.Stop(calls)
		d.Write(0, all(1))
		crash(t, d, nil, -1, 0)
		for range 9 {
			write(t, d, 0, all(2))
			flush(t, d)
		}
		if d.Off() {
			t.Error("a Stop holds still")
		}
		reads(t, d, 0, all(2))
	}
}

// plain is the chapter's device, told once more in the simplest way.
type plain struct {
	last, sure      [][]byte
	dirty           []bool
	writes, flushes int
	left            int
}

func newPlain(sectors int) *plain {
	p := &plain{dirty: make([]bool, sectors), left: -1}
	for range sectors {
		p.last, p.sure = append(p.last, all(0)), append(p.sure, all(0))
	}
	return p
}

func (p *plain) done(count *int) api.Errno {
	if p.left == 0 {
		return api.ErrOff
	}
	*count++
	if p.left > 0 {
		p.left--
	}
	return api.OK
}

func (p *plain) crash(keep []int, torn, part int) {
	for i := range p.dirty {
		switch {
		case slices.Contains(keep, i):
		case i == torn:
			p.last[i] = append(bytes.Clone(p.last[i][:part]), p.sure[i][part:]...)
		default:
			p.last[i] = bytes.Clone(p.sure[i])
		}
		p.sure[i], p.dirty[i] = bytes.Clone(p.last[i]), false
	}
	p.left = -1
}

// step does one thing, by chance, to both.
func (p *plain) step(t *testing.T, r *rand.Rand, d *sector.Device) {
	t.Helper()
	n := len(p.dirty)
	switch r.Intn(10) {
	case 0:
		p.left = r.Intn(12) - 2
		d.Stop(p.left)
		p.left = max(p.left, -1)
	case 1:
		keep, torn, part := r.Perm(n + 2)[:r.Intn(n)], r.Intn(n+2)-1, r.Intn(65)
		p.crash(keep, torn, part)
		crash(t, d, keep, torn, part)
	case 2, 3:
		want := p.done(&p.flushes)
		if want == api.OK {
			for i := range p.dirty {
				p.sure[i], p.dirty[i] = bytes.Clone(p.last[i]), false
			}
		}
		if e := d.Flush(); e != want {
			t.Fatalf("Flush: %d, not %d", e, want)
		}
	default:
		i, b := r.Intn(n), make([]byte, api.SectorBytes)
		r.Read(b)
		want := p.done(&p.writes)
		if want == api.OK {
			p.last[i], p.dirty[i] = b, true
		}
		if e := d.Write(i, b); e != want {
			t.Fatalf("Write: %d, not %d", e, want)
		}
	}
}

func (p *plain) same(t *testing.T, d *sector.Device) {
	t.Helper()
	var want []int
	for i, is := range p.dirty {
		if is {
			want = append(want, i)
		}
		if p.left != 0 {
			reads(t, d, i, p.last[i])
		} else if _, e := d.Read(i); e != api.ErrOff {
			t.Errorf("Read(%d) without power: %d", i, e)
		}
	}
	dirty(t, d, want...)
	counts(t, d, p.writes, p.flushes)
	if d.Off() != (p.left == 0) {
		t.Error("Off:", d.Off())
	}
}

// P3.1 to P3.4: whatever is done, in whatever order; what was flushed is what a crash leaves at least.
func TestDeviceIsAsThePlainOne(t *testing.T) {
	for seed := range 60 {
		r := rand.New(rand.NewSource(int64(seed)))
		sectors := 1 + r.Intn(6)
		p, d := newPlain(sectors), made(t, sectors)
		for range 300 {
			p.step(t, r, d)
			p.same(t, d)
		}
		if t.Failed() {
			t.Fatal("seed", seed)
		}
	}
}

// P3.4
func TestWhatWasFlushedIsNeverLost(t *testing.T) {
	d := made(t, api.MaxSectors)
	for i := range api.MaxSectors {
		write(t, d, i, all(byte(i%251)))
	}
	flush(t, d)
	for i := range api.MaxSectors {
		write(t, d, i, all(255))
	}
	d.Stop(0)
	crash(t, d, nil, -1, 0)
	for i := range api.MaxSectors {
		reads(t, d, i, all(byte(i%251)))
	}
	dirty(t, d)
}
