package ident_test

import (
	"bytes"
	"math"
	"slices"
	"strconv"
	"testing"

	"entrepot/api"
	"entrepot/ident"
)

// P9.2: the code's bytes, reckoned by hand but for the mixes, which are those of SipHash-2-4 with the seal 7.
func TestPack(t *testing.T) {
	x := ident.New()
	fresh(t, x, 2, "", 300)
	fresh(t, x, 2, "entrepot", 4)
	told(t, x, api.Answer{Client: 2, Number: 300, Code: 91, N: -3}, api.OK)
	low(t, x, 40, 129, api.OK)
	want := "\x02" +
		"\x02\x01\x02" +
		"\x04" + mixOf("entrepot") + "\x00" +
		"\x82\x01\x2c" + mixOf("") + "\x01" + "\x5b\x91\x02" +
		"\x28\x81\x81\x00"
	if b := x.Pack(); string(b) != want {
		t.Errorf("%x, not %x", b, want)
	}
	if _, e := ident.Unpack([]byte(want)); e != api.OK {
		t.Error(e)
	}
}

// mixOf has the cells of mixes that were reckoned apart from the program.
func mixOf(body string) string {
	if body == "" {
		return "\x84\xdb\x04\xbb\xb2\x84\x37\x77\xf1\x94"
	}
	return "\x84\x67\x99\xdb\x06\x84\xad\x55\x3c\xb2"
}

// P9.2: a mix's halves have no byte more than they need.
func TestPackOfSmallMixes(t *testing.T) {
	for _, s := range []string{"\x00\x00", "\x00\x05", "\x05\x00", "\x81\x80\x7f", "\x84\xff\xff\xff\xff\x84\xff\xff\xff\xff"} {
		b := []byte("\x01\x03\x01\x01\x09" + s + "\x00")
		x, e := ident.Unpack(b)
		if e != api.OK || !bytes.Equal(x.Pack(), b) || x.Len(3) != 1 || pairs(x) != "3 9" {
			t.Errorf("%x: %d", s, e)
		}
	}
}

// P9.2, P9.3: what is unpacked is as it was, and goes on as the first one.
func TestUnpackGoesOn(t *testing.T) {
	x, l := mixed(t)
	b := x.Pack()
	y, e := ident.Unpack(b)
	if e != api.OK {
		t.Fatal(e)
	}
	has(t, "unpacked", y, l...)
	clear(b[:cap(b)])
	has(t, "its code cleared", y, l...)
	for _, x := range []*ident.Table{x, y} {
		fresh(t, x, 3, "z", 4)
		told(t, x, api.Answer{Client: 3, Number: 128}, api.ErrTwice)
		told(t, x, api.Answer{Client: 3, Number: 5, N: 9}, api.OK)
		asked(t, x, 0, 1, "b", api.VerdictStale, api.Answer{})
		low(t, x, 0, 3, api.ErrState)
		fresh(t, x, 50, "z", 1)
	}
	if !bytes.Equal(x.Pack(), y.Pack()) {
		t.Error("unlike")
	}
}

func notUnpacked(t *testing.T, name string, b []byte) {
	t.Helper()
	if x, e := ident.Unpack(b); x != nil || e != api.ErrCode {
		t.Errorf("%s: %v, %d", name, x, e)
	}
}

// P9.2
func TestUnpackRefusesLines(t *testing.T) {
	one := line{4, 2, []seen{{number: 2, body: "a"}, {3, "b", true, 5, 6}}}
	two := line{5, 1, []seen{{number: 1, body: "c"}}}
	x, e := ident.Unpack(code(one, two))
	if e != api.OK {
		t.Fatal(e)
	}
	has(t, "both", x, one, two)
	with := func(client, mark int, l ...seen) line { return line{client, mark, l} }
	for name, l := range map[string][]line{
		"clients that fall":            {two, one},
		"the same client":              {one, with(4, 9)},
		"a client below 0":             {with(-1, 2), one},
		"a great client":               {one, with(64, 2)},
		"a client of nothing":          {one, with(5, 1)},
		"a client of nothing ahead":    {with(0, 1), one},
		"a mark of 0":                  {with(4, 0)},
		"a mark of 0, and a number":    {with(4, 0, seen{number: 1})},
		"a mark below 0":               {with(4, -3)},
		"a great mark":                 {with(4, most+2)},
		"a number below the mark":      {with(4, 3, seen{number: 2})},
		"a done one below the mark":    {with(4, 3, seen{number: 2, done: true})},
		"number 0":                     {with(4, 1, seen{number: 0})},
		"a number below 0":             {with(4, 1, seen{number: -1})},
		"a great number":               {with(4, 1, seen{number: most + 1})},
		"a great number at its mark":   {with(4, most+1, seen{number: most + 1})},
		"numbers that fall":            {with(4, 1, seen{number: 3}, seen{number: 2})},
		"the same number":              {with(4, 1, seen{number: 3}, seen{number: 3})},
		"an answer's code below 0":     {with(4, 1, seen{3, "", true, -1, 0})},
		"an answer's code above 1000":  {with(4, 1, seen{3, "", true, 1001, 0})},
		"a mark and no more, at fault": {with(4, 2), with(3, 2)},
	} {
		notUnpacked(t, name, code(l...))
	}
	for _, l := range [][]line{{with(0, 2)}, {with(63, most+1)}, {with(4, most, seen{number: most})}, {with(4, 1, seen{3, "", true, 1000, math.MinInt})}, {with(4, 1, seen{3, "", true, 0, math.MaxInt})}} {
		x, e := ident.Unpack(code(l...))
		if e != api.OK {
			t.Fatal(l, e)
		}
		has(t, "at the edge", x, l...)
	}
}

// P9.2: 128 numbers of each of 64 clients, and no more; the longest of all codes is one.
func TestUnpackOfMany(t *testing.T) {
	var l []line
	for client := range 65 {
		c := line{client: client, mark: most - 200}
		for i := range 128 {
			c.seen = append(c.seen, seen{most - 200 + i, strconv.Itoa(i), true, 1000, math.MinInt})
		}
		l = append(l, c)
	}
	x, e := ident.Unpack(code(l[:64]...))
	if e != api.OK || x.Len(63) != 128 {
		t.Fatal(e)
	}
	has(t, "all", x, l[:64]...)
	notUnpacked(t, "65 clients", code(l...))
	l[63].seen = append(l[63].seen, seen{number: most})
	notUnpacked(t, "129 numbers", code(l[:64]...))
}

// P9.2: what is cut off, goes on, or is no cell.
func TestUnpackRefusesOtherBytes(t *testing.T) {
	x, _ := mixed(t)
	b := x.Pack()
	for size := range b {
		notUnpacked(t, "cut off", b[:size])
	}
	for _, more := range []string{"\x00", "\x01", "\xff", string(b)} {
		notUnpacked(t, "more behind", append(slices.Clone(b), more...))
	}
	one := "\x01\x03\x01\x01\x09"
	for _, s := range []string{"", "\x00\x00", "\x90", "\x81\x00", "\x81\x41", one + "\x85\x01\x00\x00\x00\x00\x00\x00", one + "\x00\x85\x01\x00\x00\x00\x00\x00", one + "\x90\x00\x00", one + "\x00\x90\x00", one + "\x00\x00\x02", one + "\x00\x00\x90", one + "\x81\x05\x00\x00", one + "\x00\x00\x01\x05", "\x01\x03\x01\x90", "\x01\x03\x01\x81\x81"} {
		notUnpacked(t, "no cell", []byte(s))
	}
	notUnpacked(t, "nothing", nil)
}

// R3
func TestCodesShareNothing(t *testing.T) {
	x, l := mixed(t)
	b := x.Pack()
	clear(b[:cap(b)])
	has(t, "packed", x, l...)
}
