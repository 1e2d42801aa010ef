package ident

import (
	"math"

	"entrepot/api"
	"entrepot/cells"
)

func (t *Table) Pack() []byte {
	if t == nil {
		return nil
	}
	m := cells.New().Num(len(t.clients))
	for client, r := range t.clients.Rising() {
		m.Num(client).Num(r.mark).Num(len(r.numbers))
		for number, seen := range r.numbers.Rising() {
			m.Num(number)
			putRequest(m, seen)
		}
	}
	// All clients with all their numbers have room in a code.
	b, _ := m.Done()
	return b
}

func putRequest(m *cells.Maker, seen request) {
	m.Num(int(seen.mix >> 32)).Num(int(seen.mix & math.MaxUint32)).Flag(seen.done)
	if seen.done {
		m.Num(int(seen.answer.Code)).Num(seen.answer.N)
	}
}

func Unpack(b []byte) (*Table, api.Errno) {
	k := cells.Take(b)
	t := New()
	least := 0
	for range k.Num(0, api.MaxClients) {
		client := k.Num(least, api.MaxClients-1)
		r := takeRecord(k, client)
		if r.mark == 1 && len(r.numbers) == 0 {
			return nil, api.ErrCode
		}
		t.clients[client] = r
		least = client + 1
	}
	if k.Done() != api.OK {
		return nil, api.ErrCode
	}
	return t, api.OK
}

func takeRecord(k *cells.Taker, client int) record {
	r := first()
	r.mark = k.Num(1, api.MaxNumber+1)
	least := r.mark
	for range k.Num(0, api.MaxOpen) {
		number := k.Num(least, api.MaxNumber)
		r.numbers[number] = takeRequest(k, client, number)
		least = number + 1
	}
	return r
}

func takeRequest(k *cells.Taker, client, number int) request {
	high, low := k.Num(0, math.MaxUint32), k.Num(0, math.MaxUint32)
	seen := request{mix: uint64(high)<<32 | uint64(low), done: k.Flag()}
	if seen.done {
		code := api.Errno(k.Num(0, mostCode))
		seen.answer = api.Answer{Client: client, Number: number, Code: code, N: k.Num(math.MinInt, math.MaxInt)}
	}
	return seen
}
