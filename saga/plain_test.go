package saga_test

import (
	"slices"

	"entrepot/api"
	"entrepot/lists"
	"entrepot/saga"
)

// plain_test.go: sagas reckoned plainly, state by state, so that the program can be held against it. It asks no package for what it reckons; of lists it knows those of goods of one letter alone.

// counts has of each good how many there are in a list; false, if it may not be.
func counts(l []api.Item) (map[string]int, bool) {
	all := map[string]int{}
	for i, item := range l {
		if len(item.Good) != 1 || item.Good < "a" || item.Good > "z" || item.N < 1 || item.N > 1<<40 || i > 0 && l[i-1].Good >= item.Good {
			return nil, false
		}
		all[item.Good] = item.N
	}
	return all, true
}

// left is what is wanted and nobody has; false, if the lists may not be, or are more.
func left(s api.Saga) (map[string]int, bool) {
	want, ok := counts(s.Want)
	if !ok {
		return nil, false
	}
	for _, l := range s.Got {
		has, ok := counts(l)
		if !ok {
			return nil, false
		}
		for good, n := range has {
			want[good] -= n
		}
	}
	for good, n := range want {
		if n < 0 {
			return nil, false
		}
		if n == 0 {
			delete(want, good)
		}
	}
	return want, true
}

func list(k map[string]int) []api.Item {
	var l []api.Item
	for letter := 'a'; letter <= 'z'; letter++ {
		if n := k[string(letter)]; n != 0 {
			l = append(l, api.Item{Good: string(letter), N: n})
		}
	}
	return l
}

// has is a number whose bits say which regions have something.
func has(s api.Saga) int {
	bits := 0
	for region, l := range s.Got {
		if len(l) > 0 {
			bits |= 1 << region
		}
	}
	return bits
}

// regions are those whose bits are set, rising.
func regions(bits int) []int {
	var l []int
	for region := range 8 {
		if bits&(1<<region) != 0 {
			l = append(l, region)
		}
	}
	return l
}

// bitsOf is the number of a list that rises; false of others.
func bitsOf(l []int) (int, bool) {
	bits := 0
	for _, region := range l {
		if region < 0 || region > 7 || bits>>region != 0 {
			return 0, false
		}
		bits |= 1 << region
	}
	return bits, true
}

// visited is the region that is visited as one of these numbers, counted from 1 on.
func visited(s api.Saga, number int) int {
	region := s.First
	for range number - 1 {
		region++
		if region == s.Regions {
			region = 0
		}
	}
	return region
}

func may(s api.Saga) bool {
	if s.Order < 1 || s.Order > 1<<40 || s.Regions < 1 || s.Regions > 8 || s.First < 0 || s.First >= s.Regions {
		return false
	}
	if len(s.Want) == 0 || len(s.Got) != s.Regions || s.Asked < 1 || s.Asked > s.Regions {
		return false
	}
	missing, ok := left(s)
	pending, rise := bitsOf(s.Pending)
	if !ok || !rise {
		return false
	}
	return mayBe(s, len(missing), pending)
}

func mayBe(s api.Saga, missing, pending int) bool {
	holders := has(s)
	switch s.State {
	case 1:
		ahead := 0
		for number := 1; number < s.Asked; number++ {
			ahead |= 1 << visited(s, number)
		}
		return missing > 0 && pending == 1<<visited(s, s.Asked) && holders&^ahead == 0
	case 2, 8, 10:
		return missing == 0 && pending == 0 && !s.Cancelled
	case 3, 5, 6:
		ends := map[int]bool{3: s.Waits && !s.Cancelled, 5: !s.Waits && !s.Cancelled, 6: s.Cancelled}
		return holders == 0 && pending == 0 && ends[s.State]
	case 4:
		return pending != 0 && pending == holders
	case 7, 9:
		return missing == 0 && pending != 0 && pending&^holders == 0 && !s.Cancelled
	}
	return false
}

// next is told apart by the state first. What is refused is known by its error.
func next(s api.Saga, e api.Event) (api.Saga, []api.Step, api.Errno) {
	if !may(s) || e.Kind < 1 || e.Kind > 8 {
		return api.Saga{}, nil, 1
	}
	s = clone(s)
	pends := slices.Contains(s.Pending, e.Region)
	switch {
	case s.State == 1 && e.Kind == api.EventTook && pends:
		return nextTook(s, e)
	case (s.State == 1 || s.State == 4) && e.Kind == api.EventCancel:
		if s.Cancelled {
			return api.Saga{}, nil, 5
		}
		s.Cancelled = true
		return s, nil, 0
	case s.State == 2 && e.Kind == api.EventCancel:
		s.Cancelled = true
		return undone(s)
	case s.State == 2 && e.Kind == api.EventPick, s.State == 8 && e.Kind == api.EventShip:
		s.State, s.Pending = s.State/8*2+7, regions(has(s))
		return s, mails(s.State, s.Pending...), 0 // MailPick and MailShip are 7 and 9 too.
	case s.State == 3 && e.Kind == api.EventCancel:
		s.Cancelled = true
		return over(s, 6)
	case s.State == 3 && e.Kind == api.EventRetry:
		s.State, s.Asked, s.Pending = 1, 1, []int{s.First}
		return s, []api.Step{{Kind: api.MailTake, Region: s.First, Items: s.Want}}, 0
	case s.State == 4 && e.Kind == api.EventFreed && pends:
		s.Got[e.Region] = nil
		if s.Pending = regions(has(s)); len(s.Pending) > 0 {
			return s, nil, 0
		}
		return undone(s)
	case (s.State == 7 && e.Kind == api.EventPicked || s.State == 9 && e.Kind == api.EventShipped) && pends:
		if !sameItems(e.Items, s.Got[e.Region]) {
			return api.Saga{}, nil, 60
		}
		bits, _ := bitsOf(s.Pending)
		if s.Pending = regions(bits &^ (1 << e.Region)); len(s.Pending) > 0 {
			return s, nil, 0
		}
		return over(s, s.State+1)
	}
	return api.Saga{}, nil, 80
}

func nextTook(s api.Saga, e api.Event) (api.Saga, []api.Step, api.Errno) {
	s.Got[e.Region] = slices.Clone(e.Items)
	missing, ok := left(s)
	if !ok {
		return api.Saga{}, nil, 60
	}
	if len(missing) == 0 && !s.Cancelled {
		return over(s, 2)
	}
	if s.Cancelled || s.Asked == s.Regions {
		return undone(s)
	}
	s.Asked++
	s.Pending = []int{visited(s, s.Asked)}
	return s, []api.Step{{Kind: api.MailTake, Region: s.Pending[0], Items: list(missing)}}, 0
}

func undone(s api.Saga) (api.Saga, []api.Step, api.Errno) {
	s.Pending = regions(has(s))
	if len(s.Pending) > 0 {
		s.State = 4
		return s, mails(api.MailFree, s.Pending...), 0
	}
	state := 5
	if s.Waits {
		state = 3
	}
	if s.Cancelled {
		state = 6
	}
	return over(s, state)
}

func over(s api.Saga, state int) (api.Saga, []api.Step, api.Errno) {
	s.State, s.Pending = state, nil
	return s, told(state), 0
}

// pendings are all lists of so many of the numbers -1 to most.
func pendings(many, most int) [][]int {
	if many == 0 {
		return [][]int{nil}
	}
	var l [][]int
	for _, ahead := range pendings(many-1, most) {
		for n := -1; n <= most; n++ {
			l = append(l, append(slices.Clone(ahead), n))
		}
	}
	return l
}

// shares are what a region may have of `a 2, b 1`, and what is no share of anything.
func shares() [][]api.Item {
	return [][]api.Item{nil, lists.Of("a 1"), lists.Of("a 2"), lists.Of("b 1"), lists.Of("a 1, b 1"), lists.Of("a 0")}
}

// gots are all ways to give so many regions such lists.
func gots(many int) [][][]api.Item {
	if many == 0 {
		return [][][]api.Item{nil}
	}
	var l [][][]api.Item
	for _, ahead := range gots(many - 1) {
		for _, share := range shares() {
			l = append(l, append(slices.Clone(ahead), share))
		}
	}
	return l
}

// all goes over all sagas of one and of two regions whose fields are in small bounds, and a little beyond them.
func all(yield func(s api.Saga)) {
	flags := []bool{false, true}
	for many := 1; many <= 2; many++ {
		waitedFor := append(append(pendings(0, many), pendings(1, many)...), pendings(2, many)...)
		for _, want := range []string{"a 1", "a 2, b 1"} {
			for _, l := range gots(many) {
				for _, pending := range waitedFor {
					s := api.Saga{Order: 1, Regions: many, Want: lists.Of(want), Got: l, Pending: pending}
					for s.First = range many {
						for s.Asked = range many + 2 {
							for s.State = range 12 {
								for _, s.Waits = range flags {
									for _, s.Cancelled = range flags {
										yield(s)
									}
								}
							}
						}
					}
				}
			}
		}
	}
}

// events are all of small numbers, and a little beyond them.
func events(many int) []api.Event {
	var l []api.Event
	for kind := range 10 {
		for region := -1; region <= many; region++ {
			for _, items := range append(shares(), lists.Of("a 2, b 1"), lists.Of("b 1, a 1"), lists.Of("c 1")) {
				l = append(l, api.Event{Kind: kind, Region: region, Items: items})
			}
		}
	}
	return l
}

// agree holds Next against the plain one.
func agree(s api.Saga, e api.Event) bool {
	n, steps, err := saga.Next(s, e)
	want, wantSteps, wantErr := next(s, e)
	return err == wantErr && same(n, want) && sameSteps(steps, wantSteps)
}
