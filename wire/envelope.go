package wire

import (
	"bytes"
	"slices"

	"reveille/api"
	"reveille/pack"
)

// Fits: may it be an envelope?
func Fits(e api.Envelope) bool {
	for _, n := range []int{e.Yours, e.Seq, e.Ack} {
		if n < 0 || n > api.MaxBoot {
			return false
		}
	}
	if !mayBoot(e.Mine) || len(e.Body) > api.MaxBody {
		return false
	}
	bare := e.Seq == 0 && len(e.Body) == 0
	switch e.Kind {
	case api.EnvHello:
		return bare && e.Ack == 0
	case api.EnvData:
		return e.Seq > 0 && e.Yours > 0
	case api.EnvAck:
		return bare
	}
	return false
}

// Wrap is an envelope's bytes.
func Wrap(e api.Envelope) ([]byte, api.Errno) {
	if !Fits(e) {
		return nil, api.ErrArg
	}
	p := pack.New()
	for _, n := range head(&e) {
		p.Number(uint64(*n))
	}
	b, err := p.Done()
	return slices.Concat(b, e.Body), err
}

// Unwrap is the envelope of which these are the bytes.
func Unwrap(b []byte) (api.Envelope, api.Errno) {
	r := pack.Read(b)
	var e api.Envelope
	for _, n := range head(&e) {
		// A number that no int holds is below 0 here, and so does not fit.
		*n = int(r.Number())
	}
	e.Body = b[len(b)-r.Left():]
	if r.Failed() || !Fits(e) {
		return api.Envelope{}, api.ErrCode
	}
	e.Body = bytes.Clone(e.Body)
	return e, api.OK
}

// head is what stands ahead of the body, in order. The kind is a number like the others: one that may be has one byte.
func head(e *api.Envelope) []*int {
	return []*int{&e.Kind, &e.Mine, &e.Yours, &e.Seq, &e.Ack}
}
