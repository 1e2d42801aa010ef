package desk

import (
	"slices"

	"entrepot/api"
	"entrepot/life"
	"entrepot/saga"
)

// settle keeps what became of a saga, and does what it wants done.
func (t *turn) settle(s api.Saga, steps []api.Step) {
	t.sagas[s.Order] = s
	for _, step := range steps {
		if step.Kind == api.StepTold {
			t.reached(s.Order, step.State)
		} else {
			t.post(step.Region, api.Mail{Kind: step.Kind, Order: s.Order, Items: step.Items})
		}
	}
}

// reached is what comes of it that an order gets to a state.
func (t *turn) reached(order, state int) {
	for _, n := range slices.Clone(t.waits[order]) {
		if e, is := life.Code(t.open[n].ask.Kind, state); is {
			t.tell(n, e, 0)
		}
	}
	switch state {
	case api.SagaWaiting:
		t.queue(order)
	case api.SagaHeld:
		t.backlog.Drop(order)
	case api.SagaRefused, api.SagaGone:
		t.backlog.Drop(order)
		t.news()
	}
	t.try()
}

// queue has no news of an order that was tried in vain: else all that wait would be tried without end.
func (t *turn) queue(order int) {
	if t.backlog.Push(order) == api.OK {
		t.news()
	} else {
		t.backlog.Back(order)
	}
}

func (t *turn) news() {
	t.posts = append(t.posts, t.among.News()...)
}

func (t *turn) try() {
	if order, is := t.backlog.Try(); is {
		t.event(order, api.Event{Kind: api.EventRetry})
	}
}

// event is whether the order's saga took it. What there is none of takes nothing.
func (t *turn) event(order int, e api.Event) bool {
	s, steps, refused := saga.Next(t.sagas[order], e)
	if refused != api.OK {
		return false
	}
	t.settle(s, steps)
	return true
}
