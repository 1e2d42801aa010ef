// Package lists makes lists of goods for tests, which are easier to read as texts.
package lists

import (
	"strconv"
	"strings"

	"entrepot/api"
)

// Of makes items of what is written as `a 3, b 2`, whether such a list may be or not. A test that is written otherwise is wrong itself: it panics.
func Of(s string) []api.Item {
	if s == "" {
		return nil
	}
	var l []api.Item
	for _, part := range strings.Split(s, ", ") {
		good, number, _ := strings.Cut(part, " ")
		n, err := strconv.Atoi(number)
		if err != nil {
			panic(err)
		}
		l = append(l, api.Item{Good: good, N: n})
	}
	return l
}

// Many are so many items, each of n, of goods that rise from the one with a number on (0 to 899).
func Many(from, many, n int) []api.Item {
	var l []api.Item
	for i := range many {
		l = append(l, api.Item{Good: "g" + strconv.Itoa(100+from+i), N: n})
	}
	return l
}
