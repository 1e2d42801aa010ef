package stock_test

import (
	"bytes"
	"math"
	"slices"
	"strings"
	"testing"

	"entrepot/api"
	"entrepot/stock"
)

// P7.2: the code's bytes, reckoned by hand.
func TestPack(t *testing.T) {
	s := stock.New()
	if b := s.Pack(); string(b) != "\x00" {
		t.Errorf("of nothing: %x", b)
	}
	s.Do(api.DoReceive, list("b 300"))
	s.Do(api.DoReturn, list("a-1 5"))
	s.Do(api.DoHold, list("b 20"))
	s.Do(api.DoPick, list("b 9"))
	s.Do(api.DoShip, list("b 2"))
	s.Do(api.DoCome, list("b 1"))
	s.Do(api.DoSend, list("b 130"))
	s.Do(api.DoScrap, list("a-1 3"))
	s.Count("b", 11)
	want := "\x02" +
		"\x03a-1" + "\x00\x00\x00\x02" + "\x00\x05\x00\x00\x00\x03\x00" +
		"\x01b" + "\x00\x0b\x07\x00" + "\x82\x01\x2c\x00\x91\x96\x01\x02\x00\x81\x82"
	if b := s.Pack(); string(b) != want {
		t.Errorf("%q, not %q", b, want)
	}
	u, e := stock.Unpack([]byte(want))
	if e != api.OK {
		t.Fatal(e)
	}
	has(t, "unpacked", u, row{good: "a-1"}.with(aside, 2, returned, 5, scrapped, 3), row{good: "b"}.with(held, 11, picked, 7, received, 300, came, 1, shipped, 2, sent, 130, counted, -151))
}

// P7.2: each number, and no good, some goods, all goods.
func TestUnpack(t *testing.T) {
	least := row{good: "-"}.with(received, 1, sent, 1)
	great := row{good: "zzzzzzzzzzzzzzzz"}.with(free, most, received, mostFlow, returned, mostFlow, came, mostFlow, counted, most-3*mostFlow)
	small := row{good: "zzzzzzzzzzzzzzzzz"[:15]}.with(aside, most, shipped, mostFlow, scrapped, mostFlow, sent, mostFlow, counted, most+3*mostFlow)
	never := row{good: "never"}
	for _, rows := range [][]row{{}, {some("a")}, {least, some("a"), some("b")}, {small, great}, {never}} {
		has(t, "unpacked", unpacked(t, rows...), rows...)
	}
	b := full(t).Pack()
	s, e := stock.Unpack(b)
	if e != api.OK || !bytes.Equal(s.Pack(), b) || len(slices.Collect(s.Goods())) != 64 {
		t.Error("of all goods:", e)
	}
	refused(t, s, api.DoReceive, list("z 1"), api.ErrFull)
}

// notUnpacked looks whether bytes are no stock's code.
func notUnpacked(t *testing.T, name string, b []byte) {
	t.Helper()
	if s, e := stock.Unpack(b); s != nil || e != api.ErrCode {
		t.Errorf("%s: %q: %v, %d", name, b, s, e)
	}
}

// P7.2
func TestUnpackRefusesRows(t *testing.T) {
	for name, rows := range map[string][]row{
		"goods that fall":           {some("b"), some("a")},
		"the same good":             {some("a"), some("a")},
		"goods that fall at last":   {some("a"), some("c"), some("b")},
		"no good":                   {some("")},
		"a great letter":            {some("A")},
		"a long good":               {some("abcdefghijklmnopq")},
		"no good behind one":        {some("a"), some("ä")},
		"less than nothing":         {plain("a", 0).with(free, -1, counted, -1)},
		"held less than nothing":    {plain("a", 5).with(held, -1, counted, -1)},
		"picked less than nothing":  {plain("a", 5).with(picked, -1, counted, -1)},
		"aside less than nothing":   {plain("a", 5).with(aside, -1, counted, -1)},
		"more than a count":         {plain("a", most+1)},
		"held more than a count":    {plain("a", 0).with(held, most+1, received, most+1)},
		"picked more than a count":  {plain("a", 0).with(picked, most+1, received, most+1)},
		"aside more than a count":   {plain("a", 0).with(aside, most+1, received, most+1)},
		"a sum that is no count":    {plain("a", most).with(held, 1, received, 1)},
		"another one":               {plain("a", most).with(aside, 1, received, 1)},
		"two sums":                  {plain("a", most).with(held, most, picked, most, aside, most, received, 3*most)},
		"not balanced":              {plain("a", 5).with(free, 1)},
		"not balanced either":       {plain("a", 5).with(sent, 1)},
		"not balanced at last":      {some("a"), some("b"), plain("c", 5).with(counted, 1)},
		"received below 0":          {plain("a", 0).with(received, -1, counted, 1)},
		"returned below 0":          {plain("a", 0).with(returned, -1, counted, 1)},
		"came below 0":              {plain("a", 0).with(came, -1, counted, 1)},
		"shipped below 0":           {plain("a", 0).with(shipped, -1, counted, -1)},
		"scrapped below 0":          {plain("a", 0).with(scrapped, -1, counted, -1)},
		"sent below 0":              {plain("a", 0).with(sent, -1, counted, -1)},
		"received more than a flow": {plain("a", 0).with(received, mostFlow+1, counted, -mostFlow-1)},
		"returned more than a flow": {plain("a", 0).with(returned, mostFlow+1, counted, -mostFlow-1)},
		"came more than a flow":     {plain("a", 0).with(came, mostFlow+1, counted, -mostFlow-1)},
		"shipped more than a flow":  {plain("a", 0).with(shipped, mostFlow+1, counted, mostFlow+1)},
		"scrapped more than a flow": {plain("a", 0).with(scrapped, mostFlow+1, counted, mostFlow+1)},
		"sent more than a flow":     {plain("a", 0).with(sent, mostFlow+1, counted, mostFlow+1)},
		"counted far above":         {plain("a", 0).with(counted, 1<<59+1)},
		"counted far below":         {plain("a", 0).with(counted, math.MinInt)},
	} {
		notUnpacked(t, name, code(t, rows...))
	}
	var rows []row
	for _, i := range goods(0, 65, 1) {
		rows = append(rows, plain(i.Good, i.N))
	}
	notUnpacked(t, "too many goods", code(t, rows...))
	has(t, "64 goods", unpacked(t, rows[:64]...), rows[:64]...)
}

// P7.2: what is cut off, goes on, or is no cell.
func TestUnpackRefusesOtherBytes(t *testing.T) {
	b := code(t, some("a"), some("b"))
	for size := range b {
		notUnpacked(t, "cut off", b[:size])
	}
	for _, more := range []string{"\x00", "\x01", "\xff", string(b)} {
		notUnpacked(t, "more behind", append(slices.Clone(b), more...))
	}
	one := "\x01\x01a\x05\x00\x00\x00\x05\x00\x00\x00\x00\x00\x00"
	if _, e := stock.Unpack([]byte(one)); e != api.OK {
		t.Fatal(e)
	}
	for _, s := range []string{"\x90", "\x81\x01", "\x01", "\x7f", "\x88\x7f\xff\xff\xff\xff\xff\xff\xff", "\x02" + one[1:], "\x00" + one[1:], "\x81" + one, "\x01\x81\x01" + one[2:], strings.Replace(one, "a\x05", "a\x81\x05", 1), strings.Replace(one, "a\x05\x00", "a\x05\x80", 1)} {
		notUnpacked(t, "no cell", []byte(s))
	}
}

// R3
func TestCodesShareNothing(t *testing.T) {
	b := code(t, some("a"), some("b"))
	s, _ := stock.Unpack(b)
	for i := range b {
		b[i] = 'z'
	}
	has(t, "unpacked", s, some("a"), some("b"))
	first := s.Pack()
	clear(first[:cap(first)])
	has(t, "packed", s, some("a"), some("b"))
}
