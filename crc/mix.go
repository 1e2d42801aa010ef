package crc

import "math/bits"

// SipHash has a key of 128 bits: the seal is one half of it, second the other.
const (
	second = 0x6172740A0B0C0D0E
	start0 = 0x736F6D6570736575
	start1 = 0x646F72616E646F6D
	start2 = 0x6C7967656E657261
	start3 = 0x7465646279746573
)

type words struct {
	v0, v1, v2, v3 uint64
}

func Mix(seal uint64, b []byte) uint64 {
	w := words{seal ^ start0, second ^ start1, seal ^ start2, second ^ start3}
	size := uint64(len(b))
	for len(b) >= 8 {
		w.take(word(b[:8]))
		b = b[8:]
	}
	// The shift leaves of the size what it is modulo 256.
	w.take(word(b) | size<<56)
	return w.end()
}

func word(b []byte) uint64 {
	var m uint64
	for i, x := range b {
		m |= uint64(x) << (8 * i)
	}
	return m
}

func (w *words) take(m uint64) {
	w.v3 ^= m
	w.round()
	w.round()
	w.v0 ^= m
}

func (w *words) end() uint64 {
	w.v2 ^= 255
	for range 4 {
		w.round()
	}
	return w.v0 ^ w.v1 ^ w.v2 ^ w.v3
}

func (w *words) round() {
	w.v0 += w.v1
	w.v1 = bits.RotateLeft64(w.v1, 13) ^ w.v0
	w.v0 = bits.RotateLeft64(w.v0, 32)
	w.v2 += w.v3
	w.v3 = bits.RotateLeft64(w.v3, 16) ^ w.v2
	w.v0 += w.v3
	w.v3 = bits.RotateLeft64(w.v3, 21) ^ w.v0
	w.v2 += w.v1
	w.v1 = bits.RotateLeft64(w.v1, 17) ^ w.v2
	w.v2 = bits.RotateLeft64(w.v2, 32)
}
