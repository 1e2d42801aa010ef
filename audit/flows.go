package audit

import (
	"slices"

	"entrepot/api"
	"entrepot/goods"
	"entrepot/model"
	"entrepot/stock"
	"entrepot/world"
)

// Flows can't tell while a node is down, as Kept.
func Flows(w *world.World) bool {
	if !whole(w) {
		return true
	}
	shelves, asked, answers := Shelves(w), slices.Collect(w.Asked()), slices.Collect(w.Answers())
	for good := range known(asked, shelves) {
		span := func(kind int) api.Range { return model.Span(kind, good, asked, answers) }
		if !flows(goods.Total(shelves, good).Flow, span) {
			return false
		}
	}
	return true
}

// known are the goods that some request names, or some shelf knows.
func known(asked []api.Ask, shelves []*stock.Stock) map[string]struct{} {
	names := map[string]struct{}{}
	for good := range model.Goods(asked) {
		names[good] = struct{}{}
	}
	for good := range goods.Goods(shelves) {
		names[good] = struct{}{}
	}
	return names
}

// flows is whether what came and went of a good is what the requests of each kind say.
func flows(f api.Flow, span func(kind int) api.Range) bool {
	return model.Within(f.Received, span(api.AskReceive)) &&
		model.Within(f.Returned, span(api.AskReturn)) &&
		model.Within(f.Scrapped, span(api.AskScrap)) &&
		model.Within(f.Sent, span(api.AskMove)) &&
		f.Shipped <= span(api.AskShip).Most
}
