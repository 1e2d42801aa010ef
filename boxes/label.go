package boxes

import (
	"strconv"
	"strings"

	"entrepot/api"
)

// Where a label's parts begin.
const (
	orderAt  = 1
	dashAt   = 14
	regionAt = 15
	boxAt    = 16
	checkAt  = 20
	labelEnd = 22
)

func Label(order, region, box int) (string, api.Errno) {
	if !mayLabel(order, region, box) {
		return "", api.ErrArg
	}
	first := digits(order, dashAt-orderAt)
	last := digits(region, boxAt-regionAt) + digits(box, checkAt-boxAt)
	return "E" + first + "-" + last + check(first+last), api.OK
}

func mayLabel(order, region, box int) bool {
	return order >= 1 && order <= api.MaxOrder && region >= 0 && region < api.MaxRegions && box >= 1 && box <= api.MaxPieces
}

// digits is a number in so many places, with 0 ahead.
func digits(n, places int) string {
	s := strconv.Itoa(n)
	return strings.Repeat("0", places-len(s)) + s
}

// check goes on from digit to digit: 100 times such a number has no room in an int.
func check(text string) string {
	rest := 0
	for _, digit := range text + "00" {
		rest = (10*rest + int(digit-'0')) % 97
	}
	return digits(98-rest, labelEnd-checkAt)
}

func Read(s string) (order, region, box int, e api.Errno) {
	if len(s) != labelEnd {
		return 0, 0, 0, api.ErrLabel
	}
	order, region, box = decimal(s[orderAt:dashAt]), decimal(s[regionAt:boxAt]), decimal(s[boxAt:checkAt])
	// Whatever else is wrong with it makes another label.
	if label, e := Label(order, region, box); e != api.OK || label != s {
		return 0, 0, 0, api.ErrLabel
	}
	return order, region, box, api.OK
}

// decimal may be anything of a text that is no number: who asks holds what comes of it against the text.
func decimal(s string) int {
	n, _ := strconv.Atoi(s)
	return n
}
