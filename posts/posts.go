// Package posts holds lists of what is posted against one another, and writes them down, for tests.
package posts

import (
	"slices"
	"strconv"
	"strings"

	"entrepot/api"
	"entrepot/mail"
)

// Same is whether both lists have the same mail to the same regions, in the same order.
func Same(a, b []api.Post) bool {
	return slices.EqualFunc(a, b, func(x, y api.Post) bool { return x.To == y.To && mail.Same(x.Mail, y.Mail) })
}

// News is {MailNews} to so many regions, by rising numbers.
func News(regions int) []api.Post {
	var l []api.Post
	for to := range regions {
		l = append(l, api.Post{To: to, Mail: api.Mail{Kind: api.MailNews}})
	}
	return l
}

// Text has a line of each: all that it has, but zeros.
func Text(l []api.Post) string {
	var s strings.Builder
	for _, p := range l {
		s.WriteString("\n\tto " + strconv.Itoa(p.To) + ": mail " + strconv.Itoa(p.Mail.Kind))
		m := p.Mail
		some(&s, "order", m.Order)
		s.WriteString(goods(m.Items))
		request(&s, m.Ask)
		if a := m.Answer; a != (api.Answer{}) {
			s.WriteString(", answer of " + strconv.Itoa(a.Client) + "'s " + strconv.Itoa(a.Number) + ": " + strconv.Itoa(int(a.Code)))
			some(&s, "n", a.N)
		}
	}
	return s.String()
}

func request(s *strings.Builder, a api.Ask) {
	if a.Kind == 0 {
		return
	}
	s.WriteString(", request " + strconv.Itoa(a.Kind) + " of " + strconv.Itoa(a.Client) + "'s " + strconv.Itoa(a.Number))
	some(s, "order", a.Order)
	some(s, "region", a.Region)
	some(s, "to", a.To)
	some(s, "n", a.N)
	if a.Good != "" {
		s.WriteString(", good " + a.Good)
	}
	s.WriteString(goods(a.Items))
}

func some(s *strings.Builder, name string, n int) {
	if n != 0 {
		s.WriteString(", " + name + " " + strconv.Itoa(n))
	}
}

func goods(l []api.Item) string {
	s := ""
	for _, i := range l {
		s += ", " + i.Good + " " + strconv.Itoa(i.N)
	}
	return s
}
