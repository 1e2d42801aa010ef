package among_test

import (
	"math"
	"slices"
	"testing"

	"entrepot/among"
	"entrepot/api"
	"entrepot/mail"
)

// P21.1, P22.1: which regions there may be.
func TestOf(t *testing.T) {
	numbers := []int{math.MinInt, -1, 0, 1, 2, 3, 4, 5, 6, 7, 8, 9, math.MaxInt}
	for _, many := range numbers {
		for _, me := range numbers {
			r, e := among.Of(me, many)
			may := slices.Contains([]int{1, 2, 3, 4, 5, 6, 7, 8}, many) && me >= 0 && me < many
			switch {
			case may && (e != api.OK || r != among.Regions{Me: me, Many: many}):
				t.Error(me, many, r, e)
			case !may && (e != api.ErrArg || r != among.Regions{}):
				t.Error(me, many, r, e)
			}
		}
	}
}

func TestHas(t *testing.T) {
	for many := 1; many <= 8; many++ {
		r, _ := among.Of(0, many)
		for _, region := range []int{math.MinInt, -1, 0, 1, 2, 3, 4, 5, 6, 7, 8, 9, math.MaxInt} {
			if r.Has(region) != (region >= 0 && region < many) {
				t.Error(many, region)
			}
		}
	}
}

// P21.1, P22.1: {MailNews} to all regions, by rising numbers, oneself too.
func TestNews(t *testing.T) {
	for many := 1; many <= 8; many++ {
		r, _ := among.Of(many-1, many)
		l := r.News()
		if len(l) != many {
			t.Fatal(many, l)
		}
		for region, p := range l {
			if p.To != region || !mail.Same(p.Mail, api.Mail{Kind: api.MailNews}) {
				t.Error(many, l)
			}
		}
	}
}
