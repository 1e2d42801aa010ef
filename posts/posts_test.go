package posts_test

import (
	"slices"
	"testing"

	"entrepot/api"
	"entrepot/lists"
	"entrepot/posts"
)

// some are unlike one another, each in one field alone.
func some() []api.Post {
	a := api.Ask{Client: 3, Number: 2, Kind: api.AskMove, Region: 1, To: 2, Items: lists.Of("a 5")}
	b := a
	b.To = 4
	return []api.Post{
		{To: 1, Mail: api.Mail{Kind: api.MailTook, Order: 65, Items: lists.Of("a 5, b 1")}},
		{To: 2, Mail: api.Mail{Kind: api.MailTook, Order: 65, Items: lists.Of("a 5, b 1")}},
		{To: 1, Mail: api.Mail{Kind: api.MailTake, Order: 65, Items: lists.Of("a 5, b 1")}},
		{To: 1, Mail: api.Mail{Kind: api.MailTook, Order: 66, Items: lists.Of("a 5, b 1")}},
		{To: 1, Mail: api.Mail{Kind: api.MailTook, Order: 65, Items: lists.Of("a 5")}},
		{To: 1, Mail: api.Mail{Kind: api.MailTook, Order: 65, Items: lists.Of("a 5, b 2")}},
		{To: 1, Mail: api.Mail{Kind: api.MailDo, Ask: a}},
		{To: 1, Mail: api.Mail{Kind: api.MailDo, Ask: b}},
		{To: 1, Mail: api.Mail{Kind: api.MailDo, Ask: api.Ask{Client: 3, Number: 2, Kind: api.AskCount, Good: "a", N: 7}}},
		{To: 1, Mail: api.Mail{Kind: api.MailDo, Ask: api.Ask{Client: 3, Number: 2, Kind: api.AskCancel, Order: 9}}},
		{To: 1, Mail: api.Mail{Kind: api.MailDone, Answer: api.Answer{Client: 3, Number: 2}}},
		{To: 1, Mail: api.Mail{Kind: api.MailDone, Answer: api.Answer{Client: 3, Number: 2, Code: 91}}},
		{To: 1, Mail: api.Mail{Kind: api.MailDone, Answer: api.Answer{Client: 3, Number: 2, N: -3}}},
		{To: 1, Mail: api.Mail{Kind: api.MailNews}},
	}
}

func TestSame(t *testing.T) {
	l := some()
	if !posts.Same(nil, nil) || !posts.Same(nil, []api.Post{}) || !posts.Same(l, some()) || posts.Same(l, l[1:]) || posts.Same(l, nil) {
		t.Error("lists")
	}
	for i := range l {
		for j := range l {
			if posts.Same(l[i:i+1], l[j:j+1]) != (i == j) {
				t.Error(l[i], l[j])
			}
			if i != j && posts.Same([]api.Post{l[i], l[j]}, []api.Post{l[j], l[i]}) {
				t.Error("in another order:", l[i], l[j])
			}
		}
	}
}

// What is unlike is written otherwise.
func TestText(t *testing.T) {
	var l []string
	for _, p := range some() {
		l = append(l, posts.Text([]api.Post{p}))
	}
	slices.Sort(l)
	if n := len(slices.Compact(slices.Clone(l))); n != len(some()) {
		t.Error(n, l)
	}
	want := "\n\tto 1: mail 4, order 65, a 5, b 1" + "\n\tto 1: mail 12, answer of 3's 2: 91"
	if s := posts.Text([]api.Post{some()[0], some()[11]}); s != want {
		t.Errorf("%q, not %q", s, want)
	}
	want = "\n\tto 1: mail 11, request 10 of 3's 2, region 1, to 2, a 5" + "\n\tto 1: mail 11, request 7 of 3's 2, n 7, good a"
	if s := posts.Text([]api.Post{some()[6], some()[8]}); s != want {
		t.Errorf("%q, not %q", s, want)
	}
	if s := posts.Text(nil); s != "" {
		t.Errorf("%q", s)
	}
}

func TestNews(t *testing.T) {
	one := some()[13:]
	if l := posts.News(2); len(l) != 2 || l[0].To != 0 || !posts.Same(l[1:], one) || posts.News(0) != nil {
		t.Error(l)
	}
}
