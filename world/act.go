package world

import (
	"entrepot/api"
	"entrepot/ask"
	"entrepot/node"
)

func (w *World) Do(a api.Act) api.Errno {
	if w == nil {
		return api.ErrClosed
	}
	switch a.Kind {
	case api.ActDeliver:
		return w.at(a.N, w.deliver)
	case api.ActLose:
		return w.at(a.N, w.lose)
	case api.ActAgain:
		return w.at(a.N, w.again)
	case api.ActRound:
		w.round()
		return api.OK
	case api.ActTick, api.ActCrash, api.ActStop, api.ActStart, api.ActAsk, api.ActBytes, api.ActCheck:
		if w.has(a.A) {
			return w.inRegion(a)
		}
	}
	return api.ErrArg
}

func (w *World) inRegion(a api.Act) api.Errno {
	var do func(*node.Node) ([]api.Sent, api.Errno)
	switch a.Kind {
	case api.ActStop:
		w.sites[a.A].device.Stop(a.N)
		return api.OK
	case api.ActStart:
		return w.start(a.A)
	case api.ActCrash:
		do = func(*node.Node) ([]api.Sent, api.Errno) { return nil, w.crash(a) }
	case api.ActTick:
		do = (*node.Node).Tick
	case api.ActAsk:
		do = func(n *node.Node) ([]api.Sent, api.Errno) { return w.ask(n, a.Ask) }
	case api.ActBytes:
		do = func(n *node.Node) ([]api.Sent, api.Errno) { return w.told(n, a.Body) }
	case api.ActCheck:
		do = func(n *node.Node) ([]api.Sent, api.Errno) { return nil, n.Checkpoint() }
	}
	return w.does(a.A, do)
}

func (w *World) crash(a api.Act) api.Errno {
	s := &w.sites[a.A]
	e := s.device.Crash(a.Keep, a.Torn, a.Bytes)
	if e == api.OK {
		s.node = nil
	}
	return e
}

// start has the device forget what is unsure: that is how its power comes back.
func (w *World) start(region int) api.Errno {
	s := &w.sites[region]
	if s.node != nil {
		return api.ErrTwice
	}
	s.device.Crash(nil, -1, 0)
	n, e := node.Open(s.device, region, w.Regions())
	s.node = n
	return e
}

func (w *World) ask(n *node.Node, a api.Ask) ([]api.Sent, api.Errno) {
	b, e := ask.Encode(a)
	if e != api.OK {
		return nil, e
	}
	return w.told(n, b)
}

// told notes what the node took, or may have taken: the power may have gone when it was sure already.
func (w *World) told(n *node.Node, b []byte) ([]api.Sent, api.Errno) {
	l, e := n.Ask(b)
	if e == api.OK || e == api.ErrOff {
		a, _ := ask.Decode(b)
		w.asked = append(w.asked, a)
	}
	return l, e
}
