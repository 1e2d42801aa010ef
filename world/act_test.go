package world_test

import (
	"math"
	"testing"

	"entrepot/api"
	"entrepot/asks"
)

// P24.2: kinds that there are not, and regions that there are not.
func TestDoRefuses(t *testing.T) {
	b := begin(t, 2, 64, 4)
	regions := []int{math.MinInt, -1, 2, 8, math.MaxInt}
	a := asks.Receive(0, 1, 0, "a 5")
	for _, kind := range []int{math.MinInt, -1, 0, 12, 13, 100, math.MaxInt} {
		for _, region := range append(regions, 0, 1) {
			b.does(api.Act{Kind: kind, A: region, Ask: a, Body: asks.Code(a)}, api.ErrArg)
		}
	}
	for _, kind := range []int{api.ActTick, api.ActCrash, api.ActStop, api.ActStart, api.ActAsk, api.ActBytes, api.ActCheck} {
		for _, region := range regions {
			b.does(api.Act{Kind: kind, A: region, Ask: a, Body: asks.Code(a)}, api.ErrArg)
		}
	}
	b.does(crash(1), api.OK)
	for _, kind := range []int{0, 12} {
		b.does(act(kind, 1), api.ErrArg)
	}
	b.counts(0, 1)
}

// P24.2: of acts that are for none A is not looked at.
func TestActsOfNoRegion(t *testing.T) {
	b := begin(t, 2, 64, 4)
	for _, region := range []int{math.MinInt, -1, 2, math.MaxInt} {
		for _, kind := range []int{api.ActDeliver, api.ActLose, api.ActAgain} {
			b.does(act(kind, region), api.ErrNone)
		}
		b.does(act(api.ActRound, region), api.OK)
	}
	b.told(4, 4)
	b.does(tells(0, asks.Low(1, 1, 1)), api.OK)
	b.does(act(api.ActAgain, -1), api.OK)
	b.does(act(api.ActLose, 7), api.OK)
	b.does(act(api.ActDeliver, 2), api.OK)
	b.told(5, 5)
}

// letters is a world with three letters on their way, to regions 1, 2, 3.
func letters(t *testing.T) *bench {
	b := begin(t, 4, 64, 4)
	for client := 1; client < 4; client++ {
		b.does(tells(0, asks.Low(client, 1, 1)), api.OK)
	}
	b.counts(3, 4)
	return b
}

// P24.2: the letter at a place comes, and is gone; the oldest one is at 0, the places go round, both ways.
func TestDeliver(t *testing.T) {
	for _, c := range []struct{ n, to int }{
		{0, 1}, {1, 2}, {2, 3}, {3, 1}, {4, 2}, {300, 1}, {-1, 3}, {-2, 2}, {-3, 1}, {-4, 3}, {-300, 1},
		{math.MaxInt, 1 + math.MaxInt%3}, {math.MinInt, 4 + math.MinInt%3},
	} {
		b := letters(t)
		b.does(at(api.ActDeliver, c.n), api.OK)
		want := []int{3, 0, 0, 0}
		want[c.to] = 1
		b.told(want...)
		// It is gone; what comes of it, the answer and the mark, is on its way behind the others.
		b.counts(4, 4)
		b.does(at(api.ActDeliver, 2), api.OK)
		b.answered(c.to, 1, api.OK)
		b.counts(4, 4)
	}
}

// P24.2: it is gone, and nothing comes of it.
func TestLose(t *testing.T) {
	b := letters(t)
	b.does(at(api.ActLose, -2), api.OK)
	b.counts(2, 4)
	b.told(3, 0, 0, 0)
	b.does(at(api.ActDeliver, 0), api.OK)
	b.does(at(api.ActDeliver, 0), api.OK)
	b.told(3, 1, 0, 1)
	b.does(at(api.ActLose, 3), api.OK)
	b.does(at(api.ActLose, 0), api.OK)
	b.does(at(api.ActLose, 5), api.OK)
	b.does(at(api.ActLose, 0), api.OK)
	b.does(at(api.ActLose, 0), api.ErrNone)
	b.does(at(api.ActDeliver, 0), api.ErrNone)
	b.does(at(api.ActAgain, 0), api.ErrNone)
	b.told(3, 1, 0, 1)
	// It is sent again.
	for range 20 {
		b.does(round(), api.OK)
	}
	b.answered(2, 1, api.OK)
}

// P24.2: it is there twice, the second one as the newest.
func TestAgain(t *testing.T) {
	b := letters(t)
	b.does(at(api.ActAgain, 4), api.OK)
	b.counts(4, 4)
	b.does(at(api.ActDeliver, -1), api.OK)
	b.told(3, 0, 1, 0)
	b.counts(5, 4)
	b.does(at(api.ActDeliver, 1), api.OK)
	b.told(3, 0, 2, 0)
	// The mark alone is told again.
	b.counts(5, 4)
}

// P24.2: a letter to a node that is down is gone; what a node refuses within it is let go.
func TestDeliverInVain(t *testing.T) {
	b := letters(t)
	b.does(crash(2), api.OK)
	b.does(at(api.ActDeliver, 1), api.OK)
	b.counts(2, 3)
	b.does(stop(1, 0), api.OK)
	b.does(at(api.ActDeliver, 0), api.OK)
	b.counts(1, 3)
	b.told(3, 0, -1, 0)
	b.does(stop(0, 0), api.OK)
	b.does(round(), api.OK)
	// The oldest letter came to region 3; what that sent came to nobody.
	b.counts(0, 3)
	b.told(3, 0, -1, 2)
}

// P24.1, P24.2: there are at most 4096 letters: none is there twice then, and what is sent beyond is lost.
func TestManyLetters(t *testing.T) {
	b := begin(t, 2, 1<<14, 4)
	b.does(tells(0, asks.Receive(1, 1, 1, "a 5")), api.OK)
	for range 4094 {
		b.quick(at(api.ActAgain, 0))
	}
	b.counts(4095, 2)
	b.does(at(api.ActAgain, 7), api.OK)
	b.counts(4096, 2)
	b.does(at(api.ActAgain, 7), api.ErrFull)
	b.does(at(api.ActAgain, -7), api.ErrFull)
	b.counts(4096, 2)
	b.does(tells(0, asks.Receive(1, 2, 1, "a 5")), api.OK)
	b.counts(4096, 2)
	// An answer comes though.
	b.does(tells(0, asks.Receive(0, 1, 0, "a 5")), api.OK)
	b.answered(0, 1, api.OK)
	// Two letters come of the first one: there is room for one.
	b.does(at(api.ActDeliver, 0), api.OK)
	b.counts(4096, 2)
	b.does(at(api.ActLose, 0), api.OK)
	b.does(at(api.ActLose, 0), api.OK)
	b.does(at(api.ActAgain, 0), api.OK)
	b.does(at(api.ActAgain, 0), api.OK)
	b.does(at(api.ActAgain, 0), api.ErrFull)
}

// P24.2: within a round 4096 letters come, at most; what comes of them counts too.
func TestRoundOfManyLetters(t *testing.T) {
	b := begin(t, 2, 1<<14, 4)
	b.does(tells(0, asks.Low(1, 1, 1)), api.OK)
	for range 4095 {
		b.quick(at(api.ActAgain, 0))
	}
	b.does(round(), api.OK)
	// Of the first one an answer and a mark came, for one of which there was room; of each other one the mark.
	b.told(2, 4097)
	b.counts(4096, 2)
	b.does(round(), api.OK)
	b.told(2+1+4096, 4098)
	b.counts(1, 2)
	for range 6 {
		b.does(round(), api.OK)
	}
	b.answered(1, 1, api.OK)
	b.counts(0, 2)
}

// P24.2: in a round all nodes that are there tick, then the oldest letter comes, till there is none.
func TestRound(t *testing.T) {
	b := begin(t, 3, 64, 6)
	b.does(round(), api.OK)
	b.told(1, 1, 1)
	b.does(crash(1), api.OK)
	b.does(tells(0, asks.Receive(2, 1, 2, "a 5")), api.OK)
	b.does(tells(0, asks.Receive(1, 1, 1, "a 5")), api.OK)
	b.does(round(), api.OK)
	b.counts(0, 2)
	b.answered(2, 1, api.OK)
	b.notAnswered(1, 1)
	b.does(start(1), api.OK)
	for range 8 {
		b.does(round(), api.OK)
	}
	b.answered(1, 1, api.OK)
	// The ticks come ahead of all letters: what is sent by the first one is due when it was sent.
	b = begin(t, 2, 64, 4)
	b.does(tells(0, asks.Low(1, 1, 1)), api.OK)
	b.does(at(api.ActLose, 0), api.OK)
	b.does(tick(0), api.OK)
	b.counts(0, 2)
	b.does(round(), api.OK)
	b.answered(1, 1, api.OK)
	b.told(1+2+2, 1+1+1)
}

// P24.2: a node that is crashed is down, and its device keeps what is told.
func TestCrash(t *testing.T) {
	b := begin(t, 2, 64, 4)
	for _, bytes := range []int{math.MinInt, -1, 65, math.MaxInt} {
		b.does(api.Act{Kind: api.ActCrash, A: 1, Torn: -1, Bytes: bytes}, api.ErrArg)
		b.told(0, 0)
	}
	b.does(tick(1), api.OK)
	b.does(crash(1), api.OK)
	b.counts(0, 1)
	b.told(0, -1)
	// A region that is down is down first.
	b.does(api.Act{Kind: api.ActCrash, A: 1, Torn: -1, Bytes: 65}, api.ErrNone)
	for _, a := range []api.Act{crash(1), tick(1), act(api.ActCheck, 1), tells(1, asks.Low(1, 1, 1)), tells(1, api.Ask{}), bytesTo(1, nil), bytesTo(1, asks.Code(asks.Low(1, 1, 1)))} {
		b.does(a, api.ErrNone)
	}
	if b.Off(1) || b.Node(1) != nil {
		t.Error("off")
	}
	b.does(start(0), api.ErrTwice)
	b.does(start(1), api.OK)
	b.told(0, 1)
	b.does(start(1), api.ErrTwice)
	b.counts(0, 2)
}

// P24.2: of an input in the middle of which the power went the device keeps what Keep, Torn and Bytes say.
func TestCrashKeeps(t *testing.T) {
	for _, c := range []struct {
		a    api.Act
		told int
	}{
		{crash(0), 0}, {crash(0, 2), 1}, {crash(0, 1, 3), 0}, {crash(0, 63, -1, 2, 2, 99), 1},
		{api.Act{Kind: api.ActCrash, Torn: 2, Bytes: 64}, 1}, {api.Act{Kind: api.ActCrash, Torn: 2, Bytes: 63}, 0}, {api.Act{Kind: api.ActCrash, Torn: 3, Bytes: 64}, 0},
		{api.Act{Kind: api.ActCrash, Torn: 2, Keep: []int{2}}, 1}, {api.Act{Kind: api.ActCrash, Torn: 2}, 0},
	} {
		b := begin(t, 1, 64, 4)
		b.does(stop(0, 1), api.OK)
		b.does(tick(0), api.ErrOff)
		if !b.Off(0) {
			t.Error("not off")
		}
		b.told(0)
		b.does(c.a, api.OK)
		if b.Off(0) {
			t.Error("off")
		}
		b.does(start(0), api.OK)
		b.told(c.told)
	}
}

// P24.2: the power goes behind so many calls; a region that begins anew has it again.
func TestStop(t *testing.T) {
	b := begin(t, 2, 64, 4)
	b.does(stop(1, 4), api.OK)
	b.does(tick(1), api.OK)
	b.does(tick(1), api.OK)
	if !b.Off(1) || b.Off(0) {
		t.Error("off", b.Off(0), b.Off(1))
	}
	for _, a := range []api.Act{tick(1), act(api.ActCheck, 1), tells(1, asks.Low(1, 1, 1)), bytesTo(1, asks.Code(asks.Low(1, 1, 1)))} {
		b.does(a, api.ErrOff)
	}
	b.does(bytesTo(1, nil), api.ErrCode)
	b.does(tells(1, api.Ask{}), api.ErrArg)
	b.counts(0, 2)
	b.does(crash(1), api.OK)
	// A device has its power whether its node is there or not.
	b.does(stop(1, 0), api.OK)
	if !b.Off(1) {
		t.Error("not off")
	}
	b.does(start(1), api.OK)
	b.told(0, 2)
	if b.Off(1) {
		t.Error("off")
	}
	b.does(crash(1), api.OK)
	b.does(stop(1, 5), api.OK)
	b.does(start(1), api.OK)
	b.does(stop(1, 1), api.OK)
	b.does(stop(1, -1), api.OK)
	b.does(tick(1), api.OK)
	b.does(tick(1), api.OK)
	b.told(0, 4)
}

// P24.2: what the node says; a request that may not be is none.
func TestTells(t *testing.T) {
	b := begin(t, 2, 64, 4)
	a := asks.Receive(0, 1, 0, "a 5")
	for _, no := range []api.Ask{{}, asks.Receive(64, 1, 0, "a 5"), asks.Receive(-1, 1, 0, "a 5"), asks.Receive(0, 0, 0, "a 5"), asks.Receive(0, 1, 0, ""), asks.Receive(0, 1, 8, "a 5"), asks.Order(0, 1, "a 0", 0)} {
		b.does(tells(0, no), api.ErrArg)
	}
	b.told(0, 0)
	b.does(tells(0, a), api.OK)
	b.answered(0, 1, api.OK)
	for _, no := range [][]byte{nil, {0}, []byte("junk"), append(asks.Code(a), 0), asks.Code(a)[1:]} {
		b.does(bytesTo(0, no), api.ErrCode)
	}
	b.told(1, 0)
	b.does(bytesTo(0, asks.Code(asks.Order(2, 7, "a 5", 0))), api.OK)
	b.answered(2, 7, api.OK)
	b.does(act(api.ActCheck, 0), api.OK)
	b.told(2, 0)
	if b.Node(0).Used() != 1 {
		t.Error(b.Node(0).Used())
	}
	b.does(crash(0), api.OK)
	b.does(start(0), api.OK)
	b.told(2, 0)
	if n := b.Node(0).Region().Shelf().Level("a").Held; n != 5 {
		t.Error(n)
	}
}

// P24.2: a request is refused, while more than 32 mails are late.
func TestTellsWithMuchLate(t *testing.T) {
	b := begin(t, 2, 1024, 4)
	for n := 1; n <= 64+33; n++ {
		b.does(tells(0, asks.Low(1, n, 1)), api.OK)
	}
	b.does(tells(0, asks.Low(1, 98, 1)), api.ErrFull)
	b.does(bytesTo(0, asks.Code(asks.Low(1, 98, 1))), api.ErrFull)
	b.told(97, 0)
	b.counts(64, 2)
}
