package mail_test

import (
	"math"
	"slices"
	"strings"
	"testing"

	"entrepot/api"
	"entrepot/cells"
	"entrepot/lists"
	"entrepot/mail"
)

// fields are the letters of each kind; of kind 0, which is none, there are none.
func fields() []string {
	return []string{
		"", "a", "y", "oi", "oi", "o", "o", "o", "oi", "o", "oi", "a", "y", "oi", "",
	}
}

func noKinds() []int {
	return []int{math.MinInt, -14, -1, 0, 15, 16, 256 + api.MailTook, 1<<32 + api.MailNews, math.MaxInt}
}

func has(kind int, letter string) bool {
	return kind >= 1 && kind <= 14 && strings.Contains(fields()[kind], letter)
}

// of is a mail of a kind.
func of(kind int) api.Mail {
	m := api.Mail{Kind: kind}
	for _, letter := range fields()[kind] {
		switch letter {
		case 'o':
			m.Order = 131
		case 'i':
			m.Items = lists.Of("a 3, b 200")
		case 'a':
			m.Ask = api.Ask{Client: 3, Number: 2, Kind: api.AskCount, Region: 4, N: 9, Good: "a"}
		case 'y':
			m.Answer = api.Answer{Client: 3, Number: 2, Code: api.ErrHeld, N: -5}
		}
	}
	return m
}

// each is a mail of every kind.
func each() []api.Mail {
	var l []api.Mail
	for kind := api.MailAsk; kind <= api.MailNews; kind++ {
		l = append(l, of(kind))
	}
	return l
}

// orders, items, asks and answers are those that may be, the edges among them.
func orders() []int {
	return []int{1, 2, 131, 1<<40 - 1, 1 << 40}
}

func items() [][]api.Item {
	return [][]api.Item{nil, {}, lists.Of("a 1"), lists.Of("- 1, a-0 128, z 2"), {{Good: "abcdefghijklmnop", N: 1 << 40}}, longest()}
}

// longest is a list whose code is as long as one may be.
func longest() []api.Item {
	var l []api.Item
	for _, letter := range "0123456789abcdef" {
		l = append(l, api.Item{Good: "abcdefghijklmno" + string(letter), N: 1 << 40})
	}
	return l
}

func asks() []api.Ask {
	by := func(a api.Ask) api.Ask {
		a.Client, a.Number = 63, 1<<32
		return a
	}
	return []api.Ask{
		{Number: 1, Kind: api.AskCancel, Order: 1},
		by(api.Ask{Kind: api.AskOrder, Items: lists.Of("a 1")}),
		by(api.Ask{Kind: api.AskOrder, N: 1, Items: longest()}),
		by(api.Ask{Kind: api.AskPick, Order: 1 << 40}),
		by(api.Ask{Kind: api.AskShip, Order: 131}),
		by(api.Ask{Kind: api.AskReturn, Order: 1 << 40, Region: 7, Items: longest()}),
		by(api.Ask{Kind: api.AskReceive, Items: longest()}),
		by(api.Ask{Kind: api.AskCount, Region: 7, Good: "abcdefghijklmnop", N: 1 << 40}),
		by(api.Ask{Kind: api.AskRestock, Region: 7, Items: longest()}),
		by(api.Ask{Kind: api.AskScrap, Region: 7, Items: longest()}),
		by(api.Ask{Kind: api.AskMove, Region: 7, To: 6, Items: longest()}),
		by(api.Ask{Kind: api.AskLow, N: 1<<32 + 1}),
	}
}

func answers() []api.Answer {
	var l []api.Answer
	for _, client := range []int{0, 1, 62, 63} {
		for _, number := range []int{1, 2, 1<<32 - 1, 1 << 32} {
			for _, code := range []api.Errno{api.OK, api.ErrArg, api.ErrLabel, 999, 1000} {
				for _, n := range []int{math.MinInt, -1 << 40, -1, 0, 1, 1 << 40, math.MaxInt} {
					l = append(l, api.Answer{Client: client, Number: number, Code: code, N: n})
				}
			}
		}
	}
	return l
}

// mays are mails that may be: one of each kind, and those at the edges of each field that it has.
func mays() []api.Mail {
	l := each()
	for _, m := range each() {
		for _, letter := range fields()[m.Kind] {
			other := m
			switch letter {
			case 'o':
				for _, other.Order = range orders() {
					l = append(l, other)
				}
			case 'i':
				for _, other.Items = range items() {
					l = append(l, other)
				}
			case 'a':
				for _, other.Ask = range asks() {
					l = append(l, other)
				}
			case 'y':
				for _, other.Answer = range answers() {
					l = append(l, other)
				}
			}
		}
	}
	return l
}

// mayNots are mails with one thing wrong each.
func mayNots() []api.Mail {
	l := []api.Mail{{}}
	for _, m := range each() {
		for _, kind := range noKinds() {
			other := m
			other.Kind = kind
			l = append(l, other)
		}
		l = append(l, wrongOrders(m)...)
		l = append(l, wrongItems(m)...)
		l = append(l, wrongAsks(m)...)
		l = append(l, wrongAnswers(m)...)
	}
	return l
}

// wrongOrders, and those below, have what is wrong in a field that the kind has; in one that it has not, whatever would be right elsewhere too.
func wrongOrders(m api.Mail) []api.Mail {
	wrong := []int{math.MinInt, -131, -1, 1<<40 + 1, math.MaxInt}
	if has(m.Kind, "o") {
		wrong = append(wrong, 0)
	} else {
		wrong = append(wrong, orders()...)
	}
	var l []api.Mail
	for _, m.Order = range wrong {
		l = append(l, m)
	}
	return l
}

func wrongItems(m api.Mail) []api.Mail {
	wrong := [][]api.Item{
		make([]api.Item, 1), lists.Of("a 0"), lists.Of("a -1"), {{N: 1}}, lists.Of("A 1"), lists.Of("b 1, a 1"), lists.Of("a 1, a 1"),
		{{Good: "a", N: 1<<40 + 1}}, {{Good: "abcdefghijklmnopq", N: 1}}, {{Good: "a b", N: 1}}, lists.Many(0, 17, 1), lists.Many(0, 300, 1),
	}
	if !has(m.Kind, "i") {
		wrong = append(wrong, items()[2:]...)
	}
	var l []api.Mail
	for _, m.Items = range wrong {
		l = append(l, m)
	}
	return l
}

func wrongAsks(m api.Mail) []api.Mail {
	wrong := []api.Ask{
		{Client: 3}, {Number: 2}, {Kind: api.AskLow}, {Order: 131}, {Region: 1}, {To: 1}, {N: 1}, {Good: "a"}, {Items: lists.Of("a 1")}, {Items: make([]api.Item, 1)},
		{Client: 64, Number: 2, Kind: api.AskCancel, Order: 131}, {Client: 3, Kind: api.AskCancel, Order: 131}, {Client: 3, Number: 2, Kind: 12, Order: 131},
		{Client: 3, Number: 2, Kind: api.AskCancel}, {Client: 3, Number: 2, Kind: api.AskCancel, Order: 131, N: 1}, {Client: 3, Number: 2, Kind: api.AskOrder},
		{Client: 3, Number: 2, Kind: api.AskMove, Region: 2, To: 2, Items: lists.Of("a 1")}, {Client: 3, Number: 2, Kind: api.AskOrder, Items: lists.Many(0, 17, 1)},
	}
	if has(m.Kind, "a") {
		wrong = append(wrong, api.Ask{}, api.Ask{Items: []api.Item{}})
	} else {
		wrong = append(wrong, asks()...)
	}
	var l []api.Mail
	for _, m.Ask = range wrong {
		l = append(l, m)
	}
	return l
}

func wrongAnswers(m api.Mail) []api.Mail {
	wrong := []api.Answer{{Client: 3}, {Code: 1}, {N: 1}, {N: -1}, {Client: 3, Code: 1, N: 1}}
	for _, client := range []int{math.MinInt, -1, 64, 256, math.MaxInt} {
		wrong = append(wrong, api.Answer{Client: client, Number: 2})
	}
	for _, number := range []int{math.MinInt, -1, 0, 1<<32 + 1, math.MaxInt} {
		wrong = append(wrong, api.Answer{Client: 3, Number: number, Code: 1})
	}
	for _, code := range []api.Errno{math.MinInt, -1, 1001, 1 << 32, math.MaxInt} {
		wrong = append(wrong, api.Answer{Client: 3, Number: 2, Code: code})
	}
	if has(m.Kind, "y") {
		wrong = append(wrong, api.Answer{})
	} else {
		for i, a := range answers() {
			if i%37 == 0 {
				wrong = append(wrong, a)
			}
		}
		wrong = append(wrong, api.Answer{Number: 1})
	}
	var l []api.Mail
	for _, m.Answer = range wrong {
		l = append(l, m)
	}
	return l
}

// same holds two mails against each other field by field.
func same(a, b api.Mail) bool {
	asks := a.Ask.Client == b.Ask.Client && a.Ask.Number == b.Ask.Number && a.Ask.Kind == b.Ask.Kind && a.Ask.Order == b.Ask.Order &&
		a.Ask.Region == b.Ask.Region && a.Ask.To == b.Ask.To && a.Ask.N == b.Ask.N && a.Ask.Good == b.Ask.Good && slices.Equal(a.Ask.Items, b.Ask.Items)
	answers := a.Answer.Client == b.Answer.Client && a.Answer.Number == b.Answer.Number && a.Answer.Code == b.Answer.Code && a.Answer.N == b.Answer.N
	return asks && answers && a.Kind == b.Kind && a.Order == b.Order && slices.Equal(a.Items, b.Items)
}

func nums(b []byte, l ...int) []byte {
	for _, n := range l {
		b = append(b, cells.Num(n)...)
	}
	return b
}

func text(b []byte, s string) []byte {
	return append(nums(b, len(s)), s...)
}

func list(b []byte, l []api.Item) []byte {
	b = nums(b, len(l))
	for _, i := range l {
		b = nums(text(b, i.Good), i.N)
	}
	return b
}

// askCode is put down as chapter 10 tells it, of whatever request.
func askCode(a api.Ask) string {
	return string(list(text(nums(nil, a.Client, a.Number, a.Kind, a.Order, a.Region, a.To, a.N), a.Good), a.Items))
}

// codeWith is put down as the chapter tells it, of whatever mail, with any text in the Ask's place, and an Answer or none.
func codeWith(m api.Mail, asked string, answered bool) []byte {
	b := text(list(nums(nil, m.Kind, m.Order), m.Items), asked)
	if answered {
		b = nums(b, m.Answer.Client, m.Answer.Number, int(m.Answer.Code), m.Answer.N)
	}
	return b
}

// code has what a mail's kind has.
func code(m api.Mail) []byte {
	asked := ""
	if has(m.Kind, "a") {
		asked = askCode(m.Ask)
	}
	return codeWith(m, asked, has(m.Kind, "y"))
}

func notDecoded(t *testing.T, name string, b []byte) {
	t.Helper()
	if m, e := mail.Decode(b); !same(m, api.Mail{}) || m.Items != nil || m.Ask.Items != nil || e != api.ErrCode {
		t.Errorf("%s: Decode(%q) = %v, %d", name, b, m, e)
	}
}
