package cells

import "entrepot/api"

// Maker is a code that grows. Once a cell did not fit, its bytes are let go: nobody can ask for them any more.
type Maker struct {
	code []byte
	long bool
}

func New() *Maker {
	return &Maker{}
}

func (m *Maker) Num(n int) *Maker {
	return m.put(Num(n), "")
}

func (m *Maker) Text(s string) *Maker {
	return m.put(Num(len(s)), s)
}

func (m *Maker) Flag(is bool) *Maker {
	if is {
		return m.Num(1)
	}
	return m.Num(0)
}

// put has both parts of a text's cell at once, so that no half of one is ever put.
func (m *Maker) put(size []byte, text string) *Maker {
	if m == nil {
		return nil
	}
	if m.long || len(size)+len(text) > api.MaxCode-len(m.code) {
		m.code, m.long = nil, true
		return m
	}
	m.code = append(append(m.code, size...), text...)
	return m
}

func (m *Maker) Done() ([]byte, api.Errno) {
	if m == nil {
		return nil, api.ErrClosed
	}
	if m.long {
		return nil, api.ErrLong
	}
	// The maker may go on: what it puts then must not lie in the answer.
	return fresh(m.code), api.OK
}
