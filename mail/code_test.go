package mail_test

import (
	"bytes"
	"math"
	"math/rand"
	"slices"
	"strings"
	"testing"

	"entrepot/api"
	"entrepot/lists"
	"entrepot/mail"
)

// P13.1: the codes are reckoned by hand.
func TestEncode(t *testing.T) {
	order, items := "\x81\x83", "\x02\x01a\x03\x01b\x81\xc8"
	asked, answer := "\x00\x00\x0a\x03\x02\x07\x00\x04\x00\x09\x01a\x00", "\x00\x00\x00\x03\x02\x46\x91\x04"
	for kind, behind := range []string{
		api.MailAsk:     asked,
		api.MailAnswer:  answer,
		api.MailTake:    order + items + "\x00",
		api.MailTook:    order + items + "\x00",
		api.MailFree:    order + "\x00\x00",
		api.MailFreed:   order + "\x00\x00",
		api.MailPick:    order + "\x00\x00",
		api.MailPicked:  order + items + "\x00",
		api.MailShip:    order + "\x00\x00",
		api.MailShipped: order + items + "\x00",
		api.MailDo:      asked,
		api.MailDone:    answer,
		api.MailGoods:   order + items + "\x00",
		api.MailNews:    "\x00\x00\x00",
	} {
		if kind == 0 {
			continue
		}
		want := string(rune(kind)) + behind
		if b, e := mail.Encode(of(kind)); string(b) != want || e != api.OK {
			t.Errorf("Encode(%v) = %q, %d, not %q", of(kind), b, e, want)
		}
		if m, e := mail.Decode([]byte(want)); !same(m, of(kind)) || e != api.OK {
			t.Errorf("Decode(%q) = %v, %d", want, m, e)
		}
	}
}

// P13.1: codes at the edges, by hand.
func TestEncodeAtTheEdges(t *testing.T) {
	for _, c := range []struct {
		m    api.Mail
		want string
	}{
		{api.Mail{Kind: api.MailTook, Order: 1 << 40}, "\x04\x86\x01\x00\x00\x00\x00\x00\x00\x00"},
		{api.Mail{Kind: api.MailFree, Order: 1}, "\x05\x01\x00\x00"},
		{api.Mail{Kind: api.MailDone, Answer: api.Answer{Number: 1}}, "\x0c\x00\x00\x00\x00\x01\x00\x00"},
		{
			api.Mail{Kind: api.MailAnswer, Answer: api.Answer{Client: 63, Number: 1 << 32, Code: 1000, N: math.MinInt}},
			"\x02\x00\x00\x00\x3f\x85\x01\x00\x00\x00\x00\x82\x03\xe8\x98\x7f\xff\xff\xff\xff\xff\xff\xff",
		},
		{
			api.Mail{Kind: api.MailAsk, Ask: api.Ask{Number: 1, Kind: api.AskOrder, Items: lists.Of("a 1")}},
			"\x01\x00\x00\x0c\x00\x01\x01\x00\x00\x00\x00\x00\x01\x01a\x01",
		},
	} {
		if b, e := mail.Encode(c.m); string(b) != c.want || e != api.OK {
			t.Errorf("Encode(%v) = %q, %d, not %q", c.m, b, e, c.want)
		}
		if m, e := mail.Decode([]byte(c.want)); !same(m, c.m) || e != api.OK {
			t.Errorf("Decode(%q) = %v, %d", c.want, m, e)
		}
	}
}

// P13.1, P13.2
func TestWhatIsEncodedIsDecoded(t *testing.T) {
	longest := 0
	for _, m := range mays() {
		b, e := mail.Encode(m)
		if !bytes.Equal(b, code(m)) || e != api.OK {
			t.Errorf("Encode(%v) = %q, %d", m, b, e)
		}
		if back, e := mail.Decode(b); !same(back, m) || e != api.OK {
			t.Errorf("%v is decoded as %v, %d", m, back, e)
		}
		longest = max(longest, len(b))
	}
	// A request's code has at most 404 bytes: those of AskReturn.
	if longest != 1+1+1+3+404 || longest > api.MaxBody {
		t.Error(longest)
	}
}

// P13.1: mails that are unlike have unlike codes.
func TestCodesAreUnlike(t *testing.T) {
	l := append(each(), mays()[14:200]...)
	for _, a := range l {
		for _, b := range l {
			x, _ := mail.Encode(a)
			y, _ := mail.Encode(b)
			if bytes.Equal(x, y) != same(a, b) {
				t.Errorf("%v, %v: %q, %q", a, b, x, y)
			}
		}
	}
}

// P13.1, R2
func TestWhatMayNotBeHasNoCode(t *testing.T) {
	for _, m := range mayNots() {
		if b, e := mail.Encode(m); len(b) != 0 || e != api.ErrArg {
			t.Errorf("Encode(%v) = %q, %d", m, b, e)
		}
		// The code as if the kind had whatever is there.
		asked := ""
		if askCode(m.Ask) != askCode(api.Ask{}) {
			asked = askCode(m.Ask)
		}
		notDecoded(t, "one that may not be", codeWith(m, asked, has(m.Kind, "y") || m.Answer != api.Answer{}))
	}
}

// P13.1: a text where there is no Ask, none where there is one, and an Answer likewise.
func TestDecodeRefusesOtherFields(t *testing.T) {
	right := askCode(of(api.MailAsk).Ask)
	for _, m := range each() {
		answered := has(m.Kind, "y")
		if has(m.Kind, "a") {
			notDecoded(t, "without an Ask", codeWith(m, "", false))
			notDecoded(t, "without an Ask, with an Answer", codeWith(m, "", true))
			notDecoded(t, "with an Answer", codeWith(m, right, true))
		} else {
			notDecoded(t, "with an Ask", codeWith(m, right, answered))
			notDecoded(t, "with no field that is right", codeWith(m, right, !answered))
			notDecoded(t, "with or without an Answer", codeWith(m, "", !answered))
		}
		for _, asked := range []string{"\x00", askCode(api.Ask{}), "no request", right[1:], right[:len(right)-1], right + "\x00", right + right, right + strings.Repeat("\x00", api.MaxBody), strings.Repeat("x", 1<<17)} {
			notDecoded(t, "with a text that is no request's code", codeWith(m, asked, answered))
		}
	}
}

// P13.1: what is cut off, or goes on.
func TestDecodeTakesWholeCodesAlone(t *testing.T) {
	for _, m := range mays()[:200] {
		b := code(m)
		for size := range b {
			notDecoded(t, "cut off", b[:size])
		}
		for _, more := range []string{"\x00", "\x01", "\xff", string(b)} {
			notDecoded(t, "more behind", append(slices.Clone(b), more...))
		}
	}
	notDecoded(t, "nothing", nil)
}

// P13.1: what is no cell, or one that no maker makes.
func TestDecodeRefusesOtherBytes(t *testing.T) {
	for _, s := range []string{"\x03\x05\x01\x01a\x03\x00", "\x0c\x00\x00\x00\x03\x02\x46\x05", "\x01\x00\x00\x0a\x03\x02\x07\x00\x04\x00\x09\x01a\x00"} {
		if _, e := mail.Decode([]byte(s)); e != api.OK {
			t.Fatal(s, e)
		}
	}
	for _, s := range []string{
		"\x81\x03\x05\x01\x01a\x03\x00", "\x03\x81\x05\x01\x01a\x03\x00", "\x03\x05\x81\x01\x01a\x03\x00", "\x03\x05\x01\x81\x01a\x03\x00", "\x03\x05\x01\x01a\x81\x03\x00",
		"\x03\x05\x01\x01a\x03\x80", "\x03\x05\x01\x01a\x03\x90", "\x03\x05\x90\x00", "\x80\x05\x01\x01a\x03\x00", "\xff\x05\x01\x01a\x03\x00", "\x93\x05\x01\x01a\x03\x00",
		"\x03\x05\x01\x01a\x03\x88\x7f\xff\xff\xff\xff\xff\xff\xff", "\x03\x05\x88\x7f\xff\xff\xff\xff\xff\xff\xff\x01a\x03\x00",
		"\x0c\x00\x00\x00\x81\x03\x02\x46\x05", "\x0c\x00\x00\x00\x03\x81\x02\x46\x05", "\x0c\x00\x00\x00\x03\x02\x81\x46\x05", "\x0c\x00\x00\x00\x03\x02\x46\x81\x05", "\x0c\x00\x00\x00\x03\x02\x46\x92\x00\x05", "\x0c\x00\x00\x00\x03\x02\x46\x80",
		"\x01\x00\x00\x81\x0a\x03\x02\x07\x00\x04\x00\x09\x01a\x00", "\x01\x00\x00\x0b\x81\x03\x02\x07\x00\x04\x00\x09\x01a\x00",
	} {
		notDecoded(t, "no cell", []byte(s))
	}
}

// P13.1: what is decoded is encoded to the same bytes, so that no mail has two codes.
func TestDecodeOfChangedBytes(t *testing.T) {
	r := rand.New(rand.NewSource(13))
	letters := []byte("\x00\x01\x02\x03\x04\x05\x06\x07\x08\x09\x0a\x0b\x0c\x0d\x0e\x0f\x3f\x40\x81\x90\x91ab-A\xff")
	l := append(each(), mays()[14:]...)
	taken := 0
	for i := range 300000 {
		b := code(l[i%len(l)])
		if i%2 == 0 {
			b = code(l[r.Intn(14)])
		}
		for range 1 + r.Intn(3) {
			b[r.Intn(min(len(b), 20))] = letters[r.Intn(len(letters))]
		}
		m, e := mail.Decode(b)
		if e == api.ErrCode && same(m, api.Mail{}) {
			continue
		}
		taken++
		if back, e2 := mail.Encode(m); e != api.OK || e2 != api.OK || !mail.May(m) || !bytes.Equal(back, b) {
			t.Fatalf("%q: %v, %d, %q, %d", b, m, e, back, e2)
		}
	}
	if taken < 10000 {
		t.Error("taken:", taken)
	}
}

// plainMay says by plain words what the chapter does, of mails that are put together below.
func plainMay(m api.Mail) bool {
	if m.Kind < 1 || m.Kind > 14 {
		return false
	}
	may := true
	if has(m.Kind, "o") {
		may = may && m.Order > 0 && m.Order <= 1<<40
	} else {
		may = may && m.Order == 0
	}
	if has(m.Kind, "i") {
		may = may && (len(m.Items) == 0 || len(m.Items) == 1 && m.Items[0].N > 0)
	} else {
		may = may && len(m.Items) == 0
	}
	if has(m.Kind, "a") {
		may = may && m.Ask.Number == 1
	} else {
		may = may && m.Ask.Number == 0 && m.Ask.Kind == 0 && m.Ask.Order == 0
	}
	if has(m.Kind, "y") {
		a := m.Answer
		return may && a.Client >= 0 && a.Client <= 63 && a.Number >= 1 && a.Number <= 1<<32 && a.Code >= 0 && a.Code <= 1000
	}
	return may && m.Answer.Client == 0 && m.Answer.Number == 0 && m.Answer.Code == 0 && m.Answer.N == 0
}

// chance puts a mail together, mostly one that may be but for a field or two.
func chance(r *rand.Rand) api.Mail {
	numbers := []int{math.MinInt, -1, 0, 0, 1, 2, 14, 15, 63, 64, 1000, 1001, 1 << 32, 1<<32 + 1, 1 << 40, 1<<40 + 1, math.MaxInt}
	number := func() int { return numbers[r.Intn(len(numbers))] }
	m := of(1 + r.Intn(14))
	if len(m.Items) > 0 {
		m.Items = lists.Of("a 1")
	}
	if m.Ask.Kind > 0 {
		m.Ask = api.Ask{Number: 1, Kind: api.AskCancel, Order: 1}
	}
	for range r.Intn(3) {
		switch r.Intn(9) {
		case 0:
			m.Kind = 1 + r.Intn(15)
		case 1:
			m.Order = number()
		case 2:
			m.Items = [][]api.Item{nil, {}, lists.Of("b 4"), lists.Of("b 0")}[r.Intn(4)]
		case 3:
			m.Ask = []api.Ask{{}, {Number: 1, Kind: api.AskCancel, Order: 1}, {Kind: api.AskCancel, Order: 1}}[r.Intn(3)]
		case 4:
			m.Answer.Client = number()
		case 5:
			m.Answer.Number = number()
		case 6:
			m.Answer.Code = api.Errno(number())
		case 7:
			m.Answer.N = number()
		case 8:
			m.Answer = api.Answer{}
		}
	}
	return m
}

// P13.1, P13.2: mails by chance, with numbers at all edges.
func TestMailsByChance(t *testing.T) {
	r := rand.New(rand.NewSource(14))
	mays := 0
	for range 400000 {
		m := chance(r)
		want := plainMay(m)
		b, e := mail.Encode(m)
		if mail.May(m) != want || (e == api.OK) != want || !want && (e != api.ErrArg || b != nil) {
			t.Fatalf("%v: %t, %d, not %t", m, mail.May(m), e, want)
		}
		if !want {
			continue
		}
		mays++
		if back, e := mail.Decode(b); e != api.OK || !same(back, m) || !bytes.Equal(b, code(m)) {
			t.Fatalf("%v: %v, %d", m, back, e)
		}
	}
	if mays < 50000 || mays > 350000 {
		t.Error("may be:", mays)
	}
}

// R3: what is answered shares nothing with what was handed in, nor with what is answered again.
func TestCodesAndMailsAreNew(t *testing.T) {
	for _, m := range each() {
		want := code(m)
		first, _ := mail.Encode(m)
		clear(first[:cap(first)])
		if b, _ := mail.Encode(m); !bytes.Equal(b, want) {
			t.Errorf("%q, not %q", b, want)
		}
		b := append(slices.Clone(want), 'z')[:len(want)]
		one, _ := mail.Decode(b)
		two, _ := mail.Decode(b)
		if b[:len(b)+1][len(b)] != 'z' || !bytes.Equal(b, want) {
			t.Errorf("%q was written to", b)
		}
		clear(b)
		for _, l := range [][]api.Item{two.Items, two.Ask.Items} {
			for i := range l[:cap(l)] {
				l[:cap(l)][i] = api.Item{Good: "ruin", N: -1}
			}
		}
		if !same(one, m) {
			t.Errorf("%v, not %v", one, m)
		}
	}
}
