package cells

import "entrepot/api"

// Taker is what is left of a code. At fault it has nothing left, so that whatever is asked for next is missing too.
type Taker struct {
	left  []byte
	fault bool
}

func Take(b []byte) *Taker {
	return &Taker{left: fresh(b)}
}

func (t *Taker) Num(least, most int) int {
	if t == nil {
		return 0
	}
	n, size, e := First(t.left)
	if e != api.OK || n < least || n > most {
		t.fail()
		return 0
	}
	t.left = t.left[size:]
	return n
}

func (t *Taker) Text(most int) string {
	if t == nil {
		return ""
	}
	text, behind, ok := firstText(t.left)
	if !ok || len(text) > most {
		t.fail()
		return ""
	}
	t.left = behind
	return string(text)
}

func (t *Taker) Flag() bool {
	return t.Num(0, 1) == 1
}

func (t *Taker) fail() {
	t.left, t.fault = nil, true
}

func (t *Taker) Left() int {
	if t == nil {
		return 0
	}
	return len(t.left)
}

func (t *Taker) Done() api.Errno {
	if t == nil {
		return api.ErrClosed
	}
	if t.fault || len(t.left) > 0 {
		return api.ErrCode
	}
	return api.OK
}
