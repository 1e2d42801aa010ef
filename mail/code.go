package mail

import (
	"math"

	"entrepot/api"
	"entrepot/ask"
	"entrepot/cells"
	"entrepot/items"
)

func Encode(m api.Mail) ([]byte, api.Errno) {
	if !May(m) {
		return nil, api.ErrArg
	}
	var asked []byte
	if has(m.Kind, "a") {
		asked, _ = ask.Encode(m.Ask)
	}
	c := items.Put(cells.New().Num(m.Kind).Num(m.Order), m.Items).Text(string(asked))
	if has(m.Kind, "y") {
		c.Num(m.Answer.Client).Num(m.Answer.Number).Num(int(m.Answer.Code)).Num(m.Answer.N)
	}
	return c.Done()
}

// Decode leaves to May which fields there may be, and which numbers in them.
func Decode(b []byte) (api.Mail, api.Errno) {
	t := cells.Take(b)
	var m api.Mail
	m.Kind, m.Order = takeNum(t), takeNum(t)
	m.Items = items.Take(t)
	e := api.OK
	if asked := t.Text(api.MaxBody); asked != "" {
		m.Ask, e = ask.Decode([]byte(asked))
	}
	if has(m.Kind, "y") {
		m.Answer = takeAnswer(t)
	}
	if e != api.OK || t.Done() != api.OK || !May(m) {
		return api.Mail{}, api.ErrCode
	}
	return m, api.OK
}

func takeAnswer(t *cells.Taker) api.Answer {
	client, number := takeNum(t), takeNum(t)
	code, n := takeNum(t), takeNum(t)
	return api.Answer{Client: client, Number: number, Code: api.Errno(code), N: n}
}

// takeNum takes whatever number comes next.
func takeNum(t *cells.Taker) int {
	return t.Num(math.MinInt, math.MaxInt)
}
