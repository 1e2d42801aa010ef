package crc_test

import (
	"bytes"
	"math/rand"
	"sync"
	"testing"

	"entrepot/crc"
)

// count is size bytes that rise by one from 0 on.
func count(size int) []byte {
	b := make([]byte, size)
	for i := range b {
		b[i] = byte(i)
	}
	return b
}

// plainSum is the chapter's sum, by steps alone.
func plainSum(sum uint32, b []byte) uint32 {
	sum = ^sum
	for _, x := range b {
		sum = crc.Step(sum, x)
	}
	return ^sum
}

// P2.1
func TestStep(t *testing.T) {
	for _, c := range []struct {
		sum  uint32
		b    byte
		want uint32
	}{
		{0, 0, 0},
		{0, 0x80, 0x82F63B78},
		{0x80, 0, 0x82F63B78},
		{0x80, 0x80, 0},
		{0x100, 0, 1},
		{0xFFFFFF00, 0, 0x00FFFFFF},
		{0, 0x40, 0x417B1DBC},
		{0, 1, 0xF26B8303},
		{0, 0xFF, 0xAD7D5351},
		{0xFFFFFFFF, 0, 0xAD82ACAE},
	} {
		if got := crc.Step(c.sum, c.b); got != c.want {
			t.Errorf("Step(%08X, %02X) = %08X, not %08X", c.sum, c.b, got, c.want)
		}
	}
}

// P2.1: the sums of RFC 3720 (B.4) among others.
func TestSum(t *testing.T) {
	var none *crc.Table
	for _, table := range []*crc.Table{crc.New(), none} {
		for _, c := range []struct {
			b    []byte
			want uint32
		}{
			{nil, 0},
			{[]byte{}, 0},
			{[]byte{0}, 0x527D5351},
			{[]byte("a"), 0xC1D04330},
			{[]byte("abc"), 0x364B3FB7},
			{[]byte("123456789"), 0xE3069283},
			{make([]byte, 32), 0x8A9136AA},
			{bytes.Repeat([]byte{0xFF}, 32), 0x62A8AB43},
			{count(32), 0x46DD794E},
		} {
			if got := table.Sum(c.b); got != c.want {
				t.Errorf("Sum(%x) = %08X, not %08X", c.b, got, c.want)
			}
			if got := table.On(0, c.b); got != c.want {
				t.Errorf("On(0, %x) = %08X, not %08X", c.b, got, c.want)
			}
		}
	}
}

// P2.1: the table's way is that of the steps.
func TestOnIsStepByStep(t *testing.T) {
	var none *crc.Table
	table := crc.New()
	r := rand.New(rand.NewSource(4))
	for range 300 {
		b := make([]byte, r.Intn(70))
		r.Read(b)
		sum := r.Uint32()
		want := plainSum(sum, b)
		if got := table.On(sum, b); got != want {
			t.Fatalf("On(%08X, %x) = %08X, not %08X", sum, b, got, want)
		}
		if got := none.On(sum, b); got != want {
			t.Fatalf("of a nil Table: On(%08X, %x) = %08X, not %08X", sum, b, got, want)
		}
	}
	if table.On(77, nil) != 77 || none.On(77, nil) != 77 {
		t.Error("gone on with nothing")
	}
}

// P2.3
func TestTheSumOfTwoPartsGoesOn(t *testing.T) {
	table := crc.New()
	b := count(300)
	for cut := range len(b) + 1 {
		if table.On(table.Sum(b[:cut]), b[cut:]) != table.Sum(b) {
			t.Error("cut at", cut)
		}
	}
}

// P2.3
func TestAnotherByteMakesAnotherSum(t *testing.T) {
	table := crc.New()
	b := count(40)
	sum := table.Sum(b)
	for i := range b {
		for by := 1; by < 256; by++ {
			b[i] ^= byte(by)
			if table.Sum(b) == sum {
				t.Errorf("byte %d, changed by %02x", i, by)
			}
			b[i] ^= byte(by)
		}
	}
}

// R3, R4: sums are asked for by many at once, the first ones too, and leave what is handed in.
func TestManyAskOneTable(t *testing.T) {
	table, b := crc.New(), count(100)
	want := plainSum(0, b)
	got := make([]uint32, 16)
	var wait sync.WaitGroup
	for i := range got {
		wait.Add(1)
		go func() {
			defer wait.Done()
			got[i] = table.Sum(b)
		}()
	}
	wait.Wait()
	for i, sum := range got {
		if sum != want {
			t.Errorf("%d: %08X, not %08X", i, sum, want)
		}
	}
	if !bytes.Equal(b, count(100)) {
		t.Error("what was handed in changed")
	}
}

// P2.1: the mixes that another program (OpenSSL's SIPHASH, 8 bytes, of the key that the chapter tells) makes.
func TestMix(t *testing.T) {
	for _, c := range []struct {
		seal uint64
		b    []byte
		want uint64
	}{
		{0, nil, 0xC3142355E1A0468B},
		{0, []byte{}, 0xC3142355E1A0468B},
		{1, nil, 0xE38913753D453315},
		{0, []byte{0}, 0xB45E68E91257BED9},
		{1, []byte{0}, 0xC4A1A5F29CFAE22F},
		{7, []byte("1234567"), 0x23456D227D26CB3F},
		{7, []byte("12345678"), 0x30B33BB2573E7339},
		{7, []byte("123456789"), 0xCFCF89DFB8E3A9E5},
		{0xFFFFFFFFFFFFFFFF, []byte("entrepot"), 0xD2827B9C2A6F6542},
		{0x0123456789ABCDEF, count(255), 0xC864E0073100678E},
		{0x0123456789ABCDEF, count(256), 0x7245BDAE09309AD4},
		{0x0123456789ABCDEF, count(257), 0xAC47A11BA116152E},
	} {
		if got := crc.Mix(c.seal, c.b); got != c.want {
			t.Errorf("Mix(%X, %x) = %016X, not %016X", c.seal, c.b, got, c.want)
		}
	}
}

// P2.1, R3: what lies behind the list's end is not mixed, nor summed.
func TestSumsLookAtTheListAlone(t *testing.T) {
	b := count(20)
	short := bytes.Clone(b[:11])
	if crc.Mix(3, b[:11]) != crc.Mix(3, short) || crc.New().Sum(b[:11]) != crc.New().Sum(short) {
		t.Error("they saw what lies behind the end")
	}
}
