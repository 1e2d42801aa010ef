package cells

import "entrepot/api"

func Join(l ...[]byte) []byte {
	var b []byte
	for _, text := range l {
		b = append(putNum(b, len(text)), text...)
	}
	return b
}

func Split(b []byte) ([][]byte, api.Errno) {
	var l [][]byte
	for len(b) > 0 {
		text, behind, ok := firstText(b)
		if !ok {
			return nil, api.ErrCode
		}
		l, b = append(l, fresh(text)), behind
	}
	return l, api.OK
}

func Parts(b []byte, most int) [][]byte {
	if most < 1 {
		return nil
	}
	var l [][]byte
	for len(b) > 0 {
		size := min(most, len(b))
		l, b = append(l, fresh(b[:size])), b[size:]
	}
	return l
}

// firstText answers pieces of b itself: who keeps or hands out one makes it fresh.
func firstText(b []byte) (text, behind []byte, ok bool) {
	n, size, e := First(b)
	if e != api.OK || n < 0 || n > len(b)-size {
		return nil, nil, false
	}
	return b[size : size+n], b[size+n:], true
}

func fresh(b []byte) []byte {
	return append([]byte(nil), b...)
}
