package boxes

import (
	"iter"
	"slices"
	"strconv"
	"strings"

	"entrepot/api"
	"entrepot/items"
)

func List(boxes [][]api.Item) (string, api.Errno) {
	switch {
	case slices.ContainsFunc(boxes, mayNot):
		return "", api.ErrItems
	case len(boxes) > api.MaxPieces:
		return "", api.ErrLong
	}
	var text strings.Builder
	for number, box := range numbered(boxes) {
		text.WriteString(line(number, box))
	}
	return text.String(), api.OK
}

func mayNot(box []api.Item) bool {
	return len(box) == 0 || !items.May(box)
}

// numbered goes over boxes by their numbers, which begin at 1.
func numbered(boxes [][]api.Item) iter.Seq2[int, []api.Item] {
	return func(yield func(int, []api.Item) bool) {
		for i, box := range boxes {
			if !yield(i+1, box) {
				return
			}
		}
	}
}

func line(number int, box []api.Item) string {
	var text strings.Builder
	text.WriteString(strconv.Itoa(number) + ":")
	for good, n := range items.All(box) {
		text.WriteString(" " + good + "=" + strconv.Itoa(n))
	}
	text.WriteString("\n")
	return text.String()
}

func Parse(s string) ([][]api.Item, api.Errno) {
	var boxes [][]api.Item
	for text := range strings.Lines(s) {
		box := said(text)
		boxes = append(boxes, box)
		// Whatever else is wrong with a line makes another one.
		if len(boxes) > api.MaxPieces || mayNot(box) || line(len(boxes), box) != text {
			return nil, api.ErrCode
		}
	}
	return boxes, api.OK
}

// said is what a line says, if it is one of a list; of others it may be anything.
func said(text string) []api.Item {
	var box []api.Item
	_, list, _ := strings.Cut(strings.TrimSuffix(text, "\n"), ": ")
	for part := range strings.SplitSeq(list, " ") {
		good, n, _ := strings.Cut(part, "=")
		box = append(box, api.Item{Good: good, N: decimal(n)})
		// These are too many already, however long the line is.
		if len(box) > api.MaxItems {
			break
		}
	}
	return box
}

// All keeps lists of its own: those that are handed in may be others when they are gone over.
func All(boxes [][]api.Item) iter.Seq2[int, api.Item] {
	var own [][]api.Item
	for _, box := range boxes {
		own = append(own, slices.Clone(box))
	}
	return func(yield func(int, api.Item) bool) {
		for number, box := range numbered(own) {
			for _, item := range box {
				if !yield(number, item) {
					return
				}
			}
		}
	}
}
