package sector_test

import (
	"bytes"
	"math"
	"slices"
	"testing"

	"entrepot/api"
	"entrepot/sector"
)

// made is a device of so many sectors.
func made(t *testing.T, sectors int) *sector.Device {
	t.Helper()
	d, e := sector.New(sectors)
	if d == nil || e != api.OK {
		t.Fatalf("New(%d): %d", sectors, e)
	}
	return d
}

// all is a sector of which each byte is x.
func all(x byte) []byte {
	return bytes.Repeat([]byte{x}, api.SectorBytes)
}

func write(t *testing.T, d *sector.Device, i int, b []byte) {
	t.Helper()
	if e := d.Write(i, b); e != api.OK {
		t.Fatalf("Write(%d): %d", i, e)
	}
}

func flush(t *testing.T, d *sector.Device) {
	t.Helper()
	if e := d.Flush(); e != api.OK {
		t.Fatal("Flush:", e)
	}
}

func crash(t *testing.T, d *sector.Device, keep []int, torn, part int) {
	t.Helper()
	if e := d.Crash(keep, torn, part); e != api.OK {
		t.Fatalf("Crash(%v, %d, %d): %d", keep, torn, part, e)
	}
}

// reads looks whether sector i has b.
func reads(t *testing.T, d *sector.Device, i int, b []byte) {
	t.Helper()
	if got, e := d.Read(i); !bytes.Equal(got, b) || e != api.OK {
		t.Errorf("Read(%d) = %x, %d, not %x", i, got, e, b)
	}
}

func dirty(t *testing.T, d *sector.Device, want ...int) {
	t.Helper()
	if got := slices.Collect(d.Dirty()); !slices.Equal(got, want) {
		t.Errorf("dirty: %v, not %v", got, want)
	}
}

func counts(t *testing.T, d *sector.Device, writes, flushes int) {
	t.Helper()
	if w, f := d.Counts(); w != writes || f != flushes {
		t.Errorf("Counts() = %d, %d, not %d, %d", w, f, writes, flushes)
	}
}

// P3.1, P3.3
func TestNewIsClean(t *testing.T) {
	for _, sectors := range []int{1, 2, 77, api.MaxSectors - 1, api.MaxSectors} {
		d := made(t, sectors)
		if d.Len() != sectors || d.Off() {
			t.Error(d.Len(), d.Off())
		}
		for i := range sectors {
			reads(t, d, i, all(0))
		}
		dirty(t, d)
		counts(t, d, 0, 0)
	}
}

// P3.1
func TestNewRefuses(t *testing.T) {
	for _, sectors := range []int{0, -1, api.MaxSectors + 1, math.MaxInt, math.MinInt} {
		if d, e := sector.New(sectors); d != nil || e != api.ErrArg {
			t.Errorf("New(%d): %v, %d", sectors, d, e)
		}
	}
}

// P3.1
func TestReadIsWhatWasWrittenLast(t *testing.T) {
	d := made(t, 3)
	write(t, d, 0, all(1))
	write(t, d, 2, all(2))
	reads(t, d, 0, all(1))
	reads(t, d, 1, all(0))
	reads(t, d, 2, all(2))
	flush(t, d)
	reads(t, d, 0, all(1))
	write(t, d, 0, all(3))
	write(t, d, 0, all(4))
	reads(t, d, 0, all(4))
	reads(t, d, 2, all(2))
	flush(t, d)
	reads(t, d, 0, all(4))
	reads(t, d, 2, all(2))
}

// P3.1, R2: what is refused is not written, not counted, and not one of the calls that Stop leaves.
func TestWriteAndReadRefuse(t *testing.T) {
	d := made(t, 3)
	d.Stop(1)
	for _, i := range []int{-1, 3, 4, math.MaxInt, math.MinInt} {
		if e := d.Write(i, all(1)); e != api.ErrArg {
			t.Errorf("Write(%d): %d", i, e)
		}
		if b, e := d.Read(i); len(b) != 0 || e != api.ErrArg {
			t.Errorf("Read(%d): %x, %d", i, b, e)
		}
	}
	for _, size := range []int{0, 1, 63, 65, 128} {
		if e := d.Write(1, make([]byte, size)); e != api.ErrArg {
			t.Errorf("Write of %d bytes: %d", size, e)
		}
	}
	if e := d.Write(1, nil); e != api.ErrArg {
		t.Error("Write of nil:", e)
	}
	dirty(t, d)
	counts(t, d, 0, 0)
	if d.Off() {
		t.Error("the power is gone")
	}
	write(t, d, 1, all(1))
	if !d.Off() {
		t.Error("the power is there")
	}
}

// P3.1: ErrArg is named ahead of ErrOff.
func TestErrorsWithoutPower(t *testing.T) {
	d := made(t, 2)
	write(t, d, 0, all(1))
	flush(t, d)
	write(t, d, 0, all(2))
	d.Stop(0)
	for range 2 {
		if e := d.Write(2, all(1)); e != api.ErrArg {
			t.Error("Write to no sector:", e)
		}
		if e := d.Write(0, make([]byte, 63)); e != api.ErrArg {
			t.Error("Write of 63 bytes:", e)
		}
		if e := d.Write(1, all(1)); e != api.ErrOff {
			t.Error("Write:", e)
		}
		if b, e := d.Read(-1); len(b) != 0 || e != api.ErrArg {
			t.Error("Read of no sector:", b, e)
		}
		if b, e := d.Read(0); len(b) != 0 || e != api.ErrOff {
			t.Error("Read:", b, e)
		}
		if e := d.Flush(); e != api.ErrOff {
			t.Error("Flush:", e)
		}
	}
	dirty(t, d, 0)
	counts(t, d, 2, 1)
	if d.Len() != 2 {
		t.Error(d.Len())
	}
	crash(t, d, nil, -1, 0)
	reads(t, d, 0, all(1))
	reads(t, d, 1, all(0))
}

// P3.3: a sector is dirty as soon as it was written, with the same bytes too.
func TestDirtyRises(t *testing.T) {
	d := made(t, 300)
	for _, i := range []int{299, 0, 17, 256, 17, 1, 255} {
		write(t, d, i, all(0))
	}
	dirty(t, d, 0, 1, 17, 255, 256, 299)
	flush(t, d)
	dirty(t, d)
	write(t, d, 5, all(1))
	dirty(t, d, 5)
	crash(t, d, []int{5}, -1, 0)
	dirty(t, d)
}

// P3.3, R5: it begins anew, is as the device is when it is ranged over, and may be stopped.
func TestDirtyIsGoneOverAnew(t *testing.T) {
	d := made(t, 9)
	over := d.Dirty()
	write(t, d, 4, all(1))
	write(t, d, 2, all(1))
	for range 2 {
		if got := slices.Collect(over); !slices.Equal(got, []int{2, 4}) {
			t.Error(got)
		}
	}
	write(t, d, 3, all(1))
	var got []int
	for i := range over {
		got = append(got, i)
		if i == 3 {
			break
		}
	}
	if !slices.Equal(got, []int{2, 3}) {
		t.Error("stopped:", got)
	}
	dirty(t, d, 2, 3, 4)
	counts(t, d, 3, 0)
}

// P3.3
func TestCountsAreOfWhatWasDone(t *testing.T) {
	d := made(t, 2)
	flush(t, d)
	flush(t, d)
	write(t, d, 0, all(1))
	write(t, d, 0, all(1))
	write(t, d, 1, all(1))
	counts(t, d, 3, 2)
	reads(t, d, 0, all(1))
	crash(t, d, []int{0}, 1, 9)
	counts(t, d, 3, 2)
	d.Stop(2)
	write(t, d, 0, all(2))
	flush(t, d)
	d.Write(0, all(3))
	d.Flush()
	counts(t, d, 4, 3)
	crash(t, d, nil, -1, 0)
	write(t, d, 0, all(4))
	counts(t, d, 5, 3)
}

// P3.3
func TestNilDevice(t *testing.T) {
	var d *sector.Device
	if e := d.Write(0, all(1)); e != api.ErrClosed {
		t.Error("Write:", e)
	}
	if e := d.Write(-1, nil); e != api.ErrClosed {
		t.Error("Write:", e)
	}
	if b, e := d.Read(0); len(b) != 0 || e != api.ErrClosed {
		t.Error("Read:", b, e)
	}
	if e := d.Flush(); e != api.ErrClosed {
		t.Error("Flush:", e)
	}
	d.Stop(-1)
	d.Stop(5)
	if !d.Off() {
		t.Error("Off")
	}
	for _, part := range []int{0, -1, 64, 65} {
		if e := d.Crash([]int{0}, 0, part); e != api.ErrClosed {
			t.Error("Crash:", e)
		}
	}
	dirty(t, d)
	if d.Len() != 0 {
		t.Error("Len:", d.Len())
	}
	counts(t, d, 0, 0)
}

// R3
func TestDeviceSharesNothing(t *testing.T) {
	d := made(t, 2)
	room := append(all(1), 7, 7)
	b := room[:api.SectorBytes]
	write(t, d, 0, b)
	write(t, d, 1, b)
	clear(b)
	reads(t, d, 0, all(1))
	for range 2 {
		got, _ := d.Read(0)
		clear(got[:cap(got)])
		reads(t, d, 0, all(1))
		reads(t, d, 1, all(1))
		flush(t, d)
	}
	if !bytes.Equal(room[api.SectorBytes:], []byte{7, 7}) {
		t.Error("what lies behind the end changed")
	}
	keep := []int{1, 0, 5}
	write(t, d, 0, all(2))
	crash(t, d, keep[:2], 0, 3)
	if !slices.Equal(keep, []int{1, 0, 5}) {
		t.Error("keep changed:", keep)
	}
}
