package wal

import (
	"iter"

	"entrepot/api"
)

func putEntry(stream, b []byte) []byte {
	size := len(b)
	stream = append(stream, byte(size>>16), byte(size>>8), byte(size))
	return append(stream, b...)
}

// entriesOf goes over the entries with which a stream begins, as pieces of it: who keeps or hands out one makes it new.
func entriesOf(stream []byte) iter.Seq[[]byte] {
	return func(yield func([]byte) bool) {
		left := stream
		for len(left) >= api.EntryTop {
			size := int(left[0])<<16 | int(left[1])<<8 | int(left[2])
			left = left[api.EntryTop:]
			if size > api.MaxFrame || size > len(left) || !yield(left[:size]) {
				return
			}
			left = left[size:]
		}
	}
}

// whole answers what of a stream is entries, and how many: a crash may have left a part of one behind them.
func whole(stream []byte) ([]byte, int) {
	size, count := 0, 0
	for b := range entriesOf(stream) {
		size += api.EntryTop + len(b)
		count++
	}
	return stream[:size], count
}

// spread writes sectors behind the stream too, as 0: what an older stream left there must not be taken for more of this one.
func spread(stream []byte, first, end int, write func(int, []byte) api.Errno) api.Errno {
	for i := first; i < end; i++ {
		used := min(api.StreamBytes, len(stream))
		b := make([]byte, api.SectorBytes)
		copy(b, stream[:used])
		b[api.StreamBytes] = byte(used)
		if e := write(i, b); e != api.OK {
			return e
		}
		stream = stream[used:]
	}
	return api.OK
}

// gather ends at a sector that is not used up: a crash may have kept sectors behind one of which it lost the end.
func gather(first, end int, read func(int) ([]byte, api.Errno)) ([]byte, api.Errno) {
	var stream []byte
	for i := first; i < end; i++ {
		b, e := read(i)
		if e != api.OK {
			return nil, e
		}
		used := int(b[api.StreamBytes])
		if used > api.StreamBytes {
			used = 0
		}
		stream = append(stream, b[:used]...)
		if used < api.StreamBytes {
			break
		}
	}
	return stream, api.OK
}
