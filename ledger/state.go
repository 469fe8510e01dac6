package ledger

import (
	"slices"

	"reveille/api"
	"reveille/pack"
	"reveille/store"
	"reveille/wire"
)

// The log's name, and the file of its snapshot.
const (
	logName   = "ledger"
	stateFile = logName + ".snap"
)

// hasState: is there a snapshot? A log tells one of an empty state, which may not be, as it tells none.
func hasState(s *store.Store) bool {
	return slices.ContainsFunc(s.List(), func(f api.Stored) bool { return f.Name == stateFile })
}

// recall is what a log says, and whether that may be.
func recall(found api.Found, hasState bool) (known, bool) {
	n, ok := newKnown(), true
	if hasState {
		n, ok = readState(found.State)
	}
	for _, b := range found.Records {
		r, isOne := readRecord(b)
		ok = ok && isOne && n.take(r, wasWritten) == api.OK
	}
	return n, ok
}

// wasWritten stands for the writing of what stands in the log.
func wasWritten(record) api.Errno { return api.OK }

// state is the bytes of all that is known.
func (n *known) state() ([]byte, api.Errno) {
	p := pack.New()
	p.Int(n.mark)
	pack.PutList(p, n.list(isAny), putHeld)
	return p.Done()
}

// readState is what a state says, and whether that may be.
func readState(b []byte) (known, bool) {
	r := pack.Read(b)
	n := newKnown()
	n.mark = r.Int()
	l := pack.GetList(r, getHeld)
	if r.Done() != api.OK || !isTime(n.mark) || len(l) > api.MaxHeld || !rise(l) {
		return known{}, false
	}
	for _, h := range l {
		if !mayHold(h) {
			return known{}, false
		}
		n.held[h.Key] = h
	}
	return n, true
}

// rise: is each run above the one ahead of it?
func rise(l []api.Held) bool {
	for i := 1; i < len(l); i++ {
		if compareKeys(l[i-1].Key, l[i].Key) >= 0 {
			return false
		}
	}
	return true
}

// mayHold: may a run be held so?
func mayHold(h api.Held) bool {
	how := isOutcome(h.Outcome) || goesOn(h) && !h.Thanked
	return how && wire.MayKey(h.Key) && isTime(h.Until)
}

func putHeld(p *pack.Packer, h api.Held) {
	putKey(p, h.Key)
	p.Int(h.Until)
	p.Int(h.Outcome)
	p.Flag(h.Thanked)
}

func getHeld(r *pack.Reader) api.Held {
	h := api.Held{Key: getKey(r)}
	h.Until = r.Int()
	h.Outcome = r.Int()
	h.Thanked = r.Flag()
	return h
}
