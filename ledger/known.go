package ledger

import (
	"cmp"
	"maps"
	"slices"

	"reveille/api"
	"reveille/wire"
)

// known is what a ledger's records say.
type known struct {
	held map[api.Key]api.Held
	mark int
}

func newKnown() known { return known{held: map[api.Key]api.Held{}, mark: api.MinTime} }

// take does what a record says, if it may be, and write does not refuse it. What would change nothing is not written.
func (n *known) take(r record, write func(r record) api.Errno) api.Errno {
	change, e := n.changeOf(r)
	if e != api.OK || change == nil {
		return e
	}
	if e := write(r); e != api.OK {
		return e
	}
	change()
	return api.OK
}

// changeOf is what makes a record's change, or why the record may not be; nil and api.OK, if it changes nothing.
func (n *known) changeOf(r record) (change func(), e api.Errno) {
	switch r.kind {
	case begun:
		return n.begin(r.key, r.until)
	case ended:
		return n.end(r.key, r.outcome)
	case thanked:
		return n.thank(r.key)
	case marked:
		return n.forget(r.mark)
	}
	return nil, api.ErrArg
}

func (n *known) begin(k api.Key, until int) (change func(), e api.Errno) {
	_, there := n.held[k]
	switch {
	case !wire.MayKey(k), !isTime(until):
		return nil, api.ErrArg
	case k.Occ < n.mark:
		return nil, api.ErrOrder
	case there:
		return nil, api.ErrTwice
	case len(n.held) >= api.MaxHeld:
		return nil, api.ErrFull
	}
	return n.hold(api.Held{Key: k, Until: until}), api.OK
}

func (n *known) end(k api.Key, outcome int) (change func(), e api.Errno) {
	h, there := n.held[k]
	switch {
	case !isOutcome(outcome):
		return nil, api.ErrArg
	case !there:
		return nil, api.ErrNone
	case !goesOn(h):
		return nil, api.ErrTwice
	}
	h.Outcome = outcome
	return n.hold(h), api.OK
}

func (n *known) thank(k api.Key) (change func(), e api.Errno) {
	h, there := n.held[k]
	switch {
	case !there:
		return nil, api.ErrNone
	case goesOn(h):
		return nil, api.ErrOrder
	case h.Thanked:
		return nil, api.OK
	}
	h.Thanked = true
	return n.hold(h), api.OK
}

func (n *known) forget(t int) (change func(), e api.Errno) {
	switch {
	case !isTime(t):
		return nil, api.ErrArg
	case t <= n.mark:
		return nil, api.OK
	}
	return func() { n.lift(t) }, api.OK
}

// hold makes a held run be as h is.
func (n *known) hold(h api.Held) (change func()) {
	return func() { n.held[h.Key] = h }
}

// lift lifts the watermark to t.
func (n *known) lift(t int) {
	n.mark = t
	for k, h := range n.held {
		if h.Thanked && k.Occ < t {
			delete(n.held, k)
		}
	}
}

// list is the held runs of which something holds, in order.
func (n *known) list(is func(h api.Held) bool) []api.Held {
	var l []api.Held
	for _, k := range slices.SortedFunc(maps.Keys(n.held), compareKeys) {
		if h := n.held[k]; is(h) {
			l = append(l, h)
		}
	}
	return l
}

func compareKeys(a, b api.Key) int {
	return cmp.Or(cmp.Compare(a.Occ, b.Occ), cmp.Compare(a.Job, b.Job), cmp.Compare(a.Host, b.Host))
}

func isAny(api.Held) bool { return true }

func goesOn(h api.Held) bool { return h.Outcome == 0 }

func isOwed(h api.Held) bool { return !goesOn(h) && !h.Thanked }

func isTime(t int) bool { return t >= api.MinTime && t <= api.MaxTime }

func isOutcome(n int) bool { return n >= api.Good && n <= api.Interrupted }
