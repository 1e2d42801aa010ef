package backlog_test

import (
	"math"
	"slices"
	"testing"

	"entrepot/api"
	"entrepot/backlog"
)

func push(t *testing.T, b *backlog.Backlog, order int, want api.Errno) {
	t.Helper()
	if e := b.Push(order); e != want {
		t.Fatalf("Push(%d) = %d, not %d", order, e, want)
	}
}

// try looks which one is tried; 0 is none.
func try(t *testing.T, b *backlog.Backlog, want int) {
	t.Helper()
	if order, is := b.Try(); order != want || is != (want != 0) {
		t.Fatalf("Try() = %d, %t, not %d", order, is, want)
	}
}

func back(t *testing.T, b *backlog.Backlog, order int, want bool) {
	t.Helper()
	if is := b.Back(order); is != want {
		t.Fatalf("Back(%d) = %t", order, is)
	}
}

func drop(t *testing.T, b *backlog.Backlog, order int, want bool) {
	t.Helper()
	if is := b.Drop(order); is != want {
		t.Fatalf("Drop(%d) = %t", order, is)
	}
}

// P16.1, P16.2: the chapter's example.
func TestExample(t *testing.T) {
	b := backlog.New()
	push(t, b, 5, api.OK)
	push(t, b, 7, api.OK)
	b.News()
	try(t, b, 5)
	try(t, b, 0)
	back(t, b, 5, true)
	try(t, b, 7)
}

// P16.1
func TestNew(t *testing.T) {
	b := backlog.New()
	has(t, "new", b, of(0))
	b.News()
	try(t, b, 0)
	has(t, "behind news", b, of(0))
	if b.Place(0) != -1 || b.Place(5) != -1 {
		t.Error(b.Place(0), b.Place(5))
	}
	push(t, backlog.New(), 5, api.OK)
	if b.Len() != 0 {
		t.Error("two backlogs are one")
	}
}

// P16.1
func TestPush(t *testing.T) {
	b := backlog.New()
	for _, order := range []int{9, 3, 1, math.MaxInt, 1 << 40, 7} {
		push(t, b, order, api.OK)
	}
	want := of(0, 9, 3, 1, math.MaxInt, 1<<40, 7)
	has(t, "pushed", b, want)
	for _, order := range []int{9, 3, 1, math.MaxInt, 1 << 40, 7} {
		push(t, b, order, api.ErrTwice)
	}
	for _, order := range []int{math.MinInt, -1 << 40, -9, -1, 0} {
		push(t, b, order, api.ErrArg)
	}
	has(t, "refused", b, want)
	// None is ready, till there are news; the one that comes behind these is not.
	try(t, b, 0)
	b.News()
	push(t, b, 8, api.OK)
	has(t, "news", b, of(0, -9, -3, -1, -math.MaxInt, -1<<40, -7, 8))
	push(t, b, 9, api.ErrTwice)
	try(t, b, 9)
	push(t, b, 9, api.ErrTwice)
	has(t, "out", b, of(9, 9, -3, -1, -math.MaxInt, -1<<40, -7, 8))
}

// P16.1: 256 orders and one more.
func TestPushOfTooMany(t *testing.T) {
	b := backlog.New()
	for i := range 256 {
		push(t, b, 1000+i, api.OK)
	}
	has(t, "full", b, many(256))
	push(t, b, 7, api.ErrFull)
	push(t, b, 1256, api.ErrFull)
	push(t, b, 1000, api.ErrTwice)
	push(t, b, 1255, api.ErrTwice)
	push(t, b, 0, api.ErrArg)
	push(t, b, -1, api.ErrArg)
	has(t, "refused", b, many(256))
	b.News()
	try(t, b, 1000)
	push(t, b, 7, api.ErrFull)
	back(t, b, 1000, true)
	push(t, b, 7, api.ErrFull)
	drop(t, b, 1100, true)
	push(t, b, 7, api.OK)
	push(t, b, 8, api.ErrFull)
	if b.Place(7) != 255 || b.Place(1101) != 100 || b.Len() != 256 {
		t.Error(b.Place(7), b.Place(1101), b.Len())
	}
}

// P16.1
func TestDrop(t *testing.T) {
	b := unpacked(t, of(0, -1, 2, -3, -4, 5))
	for _, order := range []int{math.MinInt, -1, 0, 6, math.MaxInt} {
		drop(t, b, order, false)
	}
	has(t, "none of these", b, of(0, -1, 2, -3, -4, 5))
	drop(t, b, 3, true)
	has(t, "in the middle", b, of(0, -1, 2, -4, 5))
	drop(t, b, 3, false)
	drop(t, b, 5, true)
	has(t, "the last", b, of(0, -1, 2, -4))
	drop(t, b, 1, true)
	has(t, "the first", b, of(0, 2, -4))
	drop(t, b, 2, true)
	drop(t, b, 4, true)
	has(t, "all", b, of(0))
	drop(t, b, 4, false)
}

// P16.1: the one that is out is out no more; another one that is dropped leaves it there.
func TestDropOfTheOneThatIsOut(t *testing.T) {
	b := unpacked(t, of(2, -1, 2, -3))
	drop(t, b, 1, true)
	has(t, "another", b, of(2, 2, -3))
	drop(t, b, 7, false)
	try(t, b, 0)
	drop(t, b, 2, true)
	has(t, "it", b, of(0, -3))
	back(t, b, 2, false)
	try(t, b, 3)
	drop(t, b, 3, true)
	has(t, "the last", b, of(0))
	// One that comes again is the last one, and was tried already.
	b = unpacked(t, of(2, -1, 2, -3))
	drop(t, b, 2, true)
	push(t, b, 2, api.OK)
	has(t, "again", b, of(0, -1, -3, 2))
	back(t, b, 2, false)
}

// P16.1
func TestNews(t *testing.T) {
	b := unpacked(t, of(3, 1, -2, 3, 4))
	b.News()
	has(t, "news", b, of(3, -1, -2, 3, -4))
	b.News()
	has(t, "news again", b, of(3, -1, -2, 3, -4))
	back(t, b, 3, true)
	has(t, "back", b, of(0, -1, -2, 3, -4))
	b.News()
	has(t, "news of it too", b, of(0, -1, -2, -3, -4))
}

// P16.2
func TestTryAndBack(t *testing.T) {
	b := unpacked(t, of(0, 5, -7, 2, -9))
	back(t, b, 0, false)
	back(t, b, 5, false)
	try(t, b, 7)
	has(t, "7 is out", b, of(7, 5, 7, 2, -9))
	try(t, b, 0)
	for _, order := range []int{math.MinInt, -7, -1, 0, 2, 5, 8, 9, math.MaxInt} {
		back(t, b, order, false)
	}
	has(t, "still", b, of(7, 5, 7, 2, -9))
	back(t, b, 7, true)
	has(t, "it stays where it is", b, of(0, 5, 7, 2, -9))
	back(t, b, 7, false)
	back(t, b, 0, false)
	try(t, b, 9)
	back(t, b, 9, true)
	try(t, b, 0)
	has(t, "all were tried", b, of(0, 5, 7, 2, 9))
}

// P16.2
func TestPlace(t *testing.T) {
	b := unpacked(t, of(7, 5, 7, -2))
	for order, want := range map[int]int{5: 0, 7: 1, 2: 2, 0: -1, -2: -1, -5: -1, 3: -1, math.MaxInt: -1, math.MinInt: -1} {
		if place := b.Place(order); place != want {
			t.Errorf("Place(%d) = %d, not %d", order, place, want)
		}
	}
}

// P16.2, R5
func TestAll(t *testing.T) {
	b := unpacked(t, of(7, 5, 7, -2))
	l := b.All()
	for range 2 {
		var seen []line
		for order, ready := range l {
			seen = append(seen, line{order, ready})
		}
		if len(seen) != 3 || seen[0] != (line{5, false}) || seen[1] != (line{7, false}) || seen[2] != (line{2, true}) {
			t.Fatal(seen)
		}
	}
	for stop := 1; stop <= 3; stop++ {
		n := 0
		for range l {
			n++
			if n == stop {
				break
			}
		}
		if n != stop {
			t.Error(n, stop)
		}
	}
	has(t, "gone over", b, of(7, 5, 7, -2))
	// It is as the backlog is when it is ranged over.
	b.News()
	b.Drop(7)
	push(t, b, 8, api.OK)
	n := 0
	for order, ready := range l {
		if (line{order, ready}) != of(0, -5, -2, 8).lines[n] {
			t.Error(n, order, ready)
		}
		n++
	}
	if n != 3 {
		t.Error(n)
	}
	for range backlog.New().All() {
		t.Error("there is one")
	}
}

// R5: one look ahead of the first.
func TestAllLooksOnce(t *testing.T) {
	b := unpacked(t, of(7, 5, 7, -2, 9))
	var seen []line
	for order, ready := range b.All() {
		seen = append(seen, line{order, ready})
		b.Drop(5)
		b.News()
	}
	if !slices.Equal(seen, of(7, 5, 7, -2, 9).lines) {
		t.Error(seen)
	}
}

// P16.2, P16.4
func TestNilBacklog(t *testing.T) {
	var b *backlog.Backlog
	for _, order := range []int{-1, 0, 1, 5} {
		push(t, b, order, api.ErrClosed)
		drop(t, b, order, false)
		back(t, b, order, false)
		if place := b.Place(order); place != -1 {
			t.Error(place)
		}
	}
	b.News()
	try(t, b, 0)
	if b.Out() != 0 || b.Len() != 0 || len(b.Pack()) != 0 {
		t.Error(b.Out(), b.Len(), b.Pack())
	}
	for range b.All() {
		t.Error("there is one")
	}
}
