package ident_test

import (
	"bytes"
	"slices"
	"strconv"
	"strings"
	"testing"

	"entrepot/api"
	"entrepot/cells"
	"entrepot/crc"
	"entrepot/ident"
)

const most = api.MaxNumber

// line is of a client, as the chapter's code has it.
type line struct {
	client, mark int
	seen         []seen
}

// seen is a number with a body: answered, if done.
type seen struct {
	number int
	body   string
	done   bool
	code   api.Errno
	n      int
}

func (s seen) answer(client int) api.Answer {
	return api.Answer{Client: client, Number: s.number, Code: s.code, N: s.n}
}

func nums(b []byte, l ...int) []byte {
	for _, n := range l {
		b = append(b, cells.Num(n)...)
	}
	return b
}

// code is put down as the chapter tells it, with whatever lines.
func code(l ...line) []byte {
	b := cells.Num(len(l))
	for _, c := range l {
		b = nums(b, c.client, c.mark, len(c.seen))
		for _, s := range c.seen {
			mix := crc.Mix(7, []byte(s.body))
			b = nums(b, s.number, int(mix>>32), int(mix&0xffffffff))
			if s.done {
				b = nums(b, 1, int(s.code), s.n)
			} else {
				b = nums(b, 0)
			}
		}
	}
	return b
}

// pairs are what is open, written as `client number, ..`.
func pairs(t *ident.Table) string {
	var l []string
	for client, number := range t.Open() {
		l = append(l, strconv.Itoa(client)+" "+strconv.Itoa(number))
	}
	return strings.Join(l, ", ")
}

// has looks whether a table has just these lines, by all its calls.
func has(t *testing.T, name string, x *ident.Table, l ...line) {
	t.Helper()
	if b := x.Pack(); !bytes.Equal(b, code(l...)) {
		t.Errorf("%s: code %x, not %x", name, b, code(l...))
	}
	var open []string
	for client := -1; client <= api.MaxClients; client++ {
		want := line{mark: 1}
		if client < 0 || client == api.MaxClients {
			want.mark = 0
		}
		if i := slices.IndexFunc(l, func(c line) bool { return c.client == client }); i >= 0 {
			want = l[i]
		}
		if n := x.Mark(client); n != want.mark {
			t.Errorf("%s: mark of %d: %d, not %d", name, client, n, want.mark)
		}
		if n := x.Len(client); n != len(want.seen) {
			t.Errorf("%s: %d of %d, not %d", name, n, client, len(want.seen))
		}
		for _, s := range want.seen {
			verdict := api.VerdictDone
			if !s.done {
				open = append(open, strconv.Itoa(client)+" "+strconv.Itoa(s.number))
				verdict = api.VerdictOpen
			}
			asked(t, x, client, s.number, s.body, verdict, s.answer(client))
			asked(t, x, client, s.number, s.body+"x", api.VerdictClash, api.Answer{})
		}
	}
	if s := pairs(x); s != strings.Join(open, ", ") {
		t.Errorf("%s: open: %s, not %s", name, s, strings.Join(open, ", "))
	}
}

// asked looks what is said to a request; the answer counts where it is done.
func asked(t *testing.T, x *ident.Table, client, number int, body string, verdict int, a api.Answer) {
	t.Helper()
	if verdict != api.VerdictDone {
		a = api.Answer{}
	}
	v, got := x.Ask(client, number, []byte(body))
	if v != verdict || got != a {
		t.Errorf("Ask(%d, %d, %q): %d, %v, not %d, %v", client, number, body, v, got, verdict, a)
	}
}

// fresh asks for what was not seen.
func fresh(t *testing.T, x *ident.Table, client int, body string, numbers ...int) {
	t.Helper()
	for _, number := range numbers {
		asked(t, x, client, number, body, api.VerdictNew, api.Answer{})
	}
}

func told(t *testing.T, x *ident.Table, a api.Answer, want api.Errno) {
	t.Helper()
	if e := x.Tell(a); e != want {
		t.Errorf("Tell(%v): %d, not %d", a, e, want)
	}
}

func low(t *testing.T, x *ident.Table, client, mark int, want api.Errno) {
	t.Helper()
	if e := x.Low(client, mark); e != want {
		t.Errorf("Low(%d, %d): %d, not %d", client, mark, e, want)
	}
}

// mixed has clients with marks, with numbers, and with both.
func mixed(t *testing.T) (*ident.Table, []line) {
	t.Helper()
	x := ident.New()
	fresh(t, x, 63, "c", most)
	fresh(t, x, 3, "a", 700, 5)
	fresh(t, x, 3, "", 128)
	told(t, x, api.Answer{Client: 3, Number: 128, Code: 1000, N: -5}, api.OK)
	fresh(t, x, 0, "b", 1, 2)
	told(t, x, api.Answer{Client: 0, Number: 1, N: 77}, api.OK)
	low(t, x, 0, 2, api.OK)
	low(t, x, 9, most+1, api.OK)
	return x, []line{
		{0, 2, []seen{{number: 2, body: "b"}}},
		{3, 1, []seen{{number: 5, body: "a"}, {128, "", true, 1000, -5}, {number: 700, body: "a"}}},
		{9, most + 1, nil},
		{63, 1, []seen{{number: most, body: "c"}}},
	}
}
