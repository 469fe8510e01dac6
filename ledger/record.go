package ledger

import (
	"reveille/api"
	"reveille/pack"
)

// Kinds of records.
const (
	begun   = 1 + iota // key, until
	ended              // key, outcome
	thanked            // key
	marked             // mark
)

// record is one change of what is known.
type record struct {
	kind    int
	key     api.Key
	until   int
	outcome int
	mark    int
}

func (r record) bytes() ([]byte, api.Errno) {
	p := pack.New()
	p.Int(r.kind)
	if r.kind != marked {
		putKey(p, r.key)
	}
	switch r.kind {
	case begun:
		p.Int(r.until)
	case ended:
		p.Int(r.outcome)
	case marked:
		p.Int(r.mark)
	}
	return p.Done()
}

// readRecord is the record of which these are the bytes, and whether they are one's, as far as its kind is one.
func readRecord(b []byte) (record, bool) {
	from := pack.Read(b)
	r := record{kind: from.Int()}
	if r.kind != marked {
		r.key = getKey(from)
	}
	switch r.kind {
	case begun:
		r.until = from.Int()
	case ended:
		r.outcome = from.Int()
	case marked:
		r.mark = from.Int()
	}
	return r, from.Done() == api.OK
}

func putKey(p *pack.Packer, k api.Key) {
	p.Text(k.Job)
	p.Int(k.Occ)
	p.Int(k.Host)
}

func getKey(r *pack.Reader) api.Key {
	k := api.Key{Job: r.Text()}
	k.Occ = r.Int()
	k.Host = r.Int()
	return k
}
