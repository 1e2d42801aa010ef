package rules

import (
	"testing"

	"entrepot/api"
)

// DOC.md, Limits.
func TestLimitsAreThoseOfTheDocument(t *testing.T) {
	limits := []struct {
		name      string
		has, want int
	}{
		{"MaxCode", api.MaxCode, 262144},
		{"MaxFrame", api.MaxFrame, 65536},
		{"FrameTop", api.FrameTop, 16},
		{"StreamBytes", api.StreamBytes, 63},
		{"EntryTop", api.EntryTop, 3},
		{"SectorBytes", api.SectorBytes, 64},
		{"MaxSectors", api.MaxSectors, 16384},
		{"MaxCount", api.MaxCount, 1 << 40},
		{"MaxFlow", api.MaxFlow, 1 << 56},
		{"Marks", api.Marks, 8},
		{"MaxGood", api.MaxGood, 16},
		{"MaxItems", api.MaxItems, 16},
		{"MaxGoods", api.MaxGoods, 64},
		{"MaxOrder", api.MaxOrder, 1 << 40},
		{"MaxOrders", api.MaxOrders, 256},
		{"MaxClients", api.MaxClients, 64},
		{"MaxNumber", api.MaxNumber, 1 << 32},
		{"MaxOpen", api.MaxOpen, 128},
		{"MaxRegions", api.MaxRegions, 8},
		{"LinkBase", api.LinkBase, 2},
		{"LinkMost", api.LinkMost, 16},
		{"MaxBox", api.MaxBox, 64},
		{"MaxBody", api.MaxBody, 2048},
		{"MaxQueue", api.MaxQueue, 256},
		{"MaxMoves", api.MaxMoves, 256},
		{"MaxLate", api.MaxLate, 32},
		{"MaxSagas", api.MaxSagas, 128},
		{"MaxWay", api.MaxWay, 4096},
		{"MaxRound", api.MaxRound, 4096},
		{"MaxBins", api.MaxBins, 64},
		{"MaxBin", api.MaxBin, 4096},
		{"MaxZone", api.MaxZone, 15},
		{"ZoneWay", api.ZoneWay, 100},
		{"MaxPieces", api.MaxPieces, 4096},
		{"MaxSize", api.MaxSize, 1 << 30},
	}
	for _, l := range limits {
		if l.has != l.want {
			t.Errorf("%s is %d, not %d", l.name, l.has, l.want)
		}
	}
}

// DOC.md, Errors: numbers of the type Errno, ten a layer.
func TestErrorsAreThoseOfTheDocument(t *testing.T) {
	errors := []struct {
		name string
		has  api.Errno
		want int
	}{
		{"OK", api.OK, 0},
		{"ErrArg", api.ErrArg, 1},
		{"ErrFull", api.ErrFull, 2},
		{"ErrLong", api.ErrLong, 3},
		{"ErrNone", api.ErrNone, 4},
		{"ErrTwice", api.ErrTwice, 5},
		{"ErrClosed", api.ErrClosed, 6},
		{"ErrCode", api.ErrCode, 10},
		{"ErrOff", api.ErrOff, 30},
		{"ErrOver", api.ErrOver, 50},
		{"ErrLess", api.ErrLess, 51},
		{"ErrItems", api.ErrItems, 60},
		{"ErrHeld", api.ErrHeld, 70},
		{"ErrGood", api.ErrGood, 71},
		{"ErrState", api.ErrState, 80},
		{"ErrClash", api.ErrClash, 90},
		{"ErrStale", api.ErrStale, 91},
		{"ErrWait", api.ErrWait, 200},
		{"ErrBin", api.ErrBin, 270},
		{"ErrLabel", api.ErrLabel, 280},
	}
	for _, e := range errors {
		if int(e.has) != e.want {
			t.Errorf("%s is %d, not %d", e.name, e.has, e.want)
		}
	}
}
