package crc

import "entrepot/api"

// Where in a frame the sum and the mix stand: behind the size, and ahead of the bytes, which begin at api.FrameTop.
const (
	sumAt = 4
	mixAt = 8
)

func (t *Table) Frame(seal uint64, b []byte) ([]byte, uint64, api.Errno) {
	if len(b) > api.MaxFrame {
		return nil, 0, api.ErrLong
	}
	mix := Mix(seal, b)
	f := make([]byte, 0, api.FrameTop+len(b))
	f = putHigh(f, uint64(len(b)+1), sumAt)
	f = putHigh(f, uint64(t.Sum(b)), mixAt-sumAt)
	f = putHigh(f, mix, api.FrameTop-mixAt)
	return append(f, b...), mix, api.OK
}

func (t *Table) Open(seal uint64, b []byte) ([]byte, uint64, api.Errno) {
	if len(b) < api.FrameTop {
		return nil, 0, api.ErrCode
	}
	size, sum, mix := high(b[:sumAt]), high(b[sumAt:mixAt]), high(b[mixAt:api.FrameTop])
	b = b[api.FrameTop:]
	// The size is one more than how many bytes there are: zeros are no frame.
	if size < 1 || size > api.MaxFrame+1 || size-1 > uint64(len(b)) {
		return nil, 0, api.ErrCode
	}
	b = b[:size-1]
	if uint64(t.Sum(b)) != sum || Mix(seal, b) != mix {
		return nil, 0, api.ErrCode
	}
	return append([]byte(nil), b...), mix, api.OK
}

func (t *Table) All(seal uint64, b []byte) ([][]byte, uint64, int) {
	// A nil Table would be reckoned anew for each frame.
	t = t.ready()
	var l [][]byte
	used := 0
	for {
		body, next, e := t.Open(seal, b[used:])
		if e != api.OK {
			return l, seal, used
		}
		l, seal, used = append(l, body), next, used+api.FrameTop+len(body)
	}
}

func putHigh(b []byte, n uint64, size int) []byte {
	for i := size - 1; i >= 0; i-- {
		b = append(b, byte(n>>(8*i)))
	}
	return b
}

func high(b []byte) uint64 {
	var n uint64
	for _, x := range b {
		n = n<<8 | uint64(x)
	}
	return n
}
