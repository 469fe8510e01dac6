package book

import (
	"reveille/api"
	"reveille/job"
	"reveille/pack"
)

// Put packs a fact.
func Put(p *pack.Packer, f api.Fact) {
	p.Int(f.Kind)
	switch f.Kind {
	case api.FactEdit:
		putEdit(p, f.Edit)
	case api.FactExpand, api.FactMissed:
		p.Text(f.Job)
		p.Int(f.Occ)
	case api.FactSent:
		putKey(p, f.Key)
	case api.FactDone:
		putKey(p, f.Key)
		p.Int(f.Outcome)
	case api.FactSkip:
		putKey(p, f.Key)
		p.Int(f.Reason)
	case api.FactRetain:
		p.Int(f.At)
	}
}

// Take reads a fact that was packed, and whether it is one.
func Take(r *pack.Reader) (api.Fact, bool) {
	f := api.Fact{Kind: r.Int()}
	is := true
	switch f.Kind {
	case api.FactEdit:
		f.Edit, is = takeEdit(r)
	case api.FactExpand, api.FactMissed:
		f.Job = r.Text()
		f.Occ = r.Int()
	case api.FactSent:
		f.Key = takeKey(r)
	case api.FactDone:
		f.Key = takeKey(r)
		f.Outcome = r.Int()
	case api.FactSkip:
		f.Key = takeKey(r)
		f.Reason = r.Int()
	case api.FactRetain:
		f.At = r.Int()
	default:
		is = false
	}
	if !is || r.Failed() {
		return api.Fact{}, false
	}
	return f, true
}

func putEdit(p *pack.Packer, e api.Edit) {
	p.Int(e.Kind)
	switch e.Kind {
	case api.EditPut:
		job.Put(p, e.Job)
		p.Int(e.At)
	case api.EditDrop:
		p.Text(e.Name)
	case api.EditMark:
		p.Text(e.Name)
		p.Int(e.At)
	case api.EditHost:
		p.Int(e.Host.Number)
		p.Int(e.Host.Boot)
		pack.PutList(p, e.Host.Labels, putLabel)
	case api.EditGone:
		p.Int(e.Host.Number)
	}
}

// takeEdit reads an edit, and whether it is one: of a job that may not be, it is none.
func takeEdit(r *pack.Reader) (api.Edit, bool) {
	e := api.Edit{Kind: r.Int()}
	switch e.Kind {
	case api.EditPut:
		e.Job = job.Get(r)
		e.At = r.Int()
		return e, job.May(e.Job)
	case api.EditDrop:
		e.Name = r.Text()
	case api.EditMark:
		e.Name = r.Text()
		e.At = r.Int()
	case api.EditHost:
		e.Host.Number = r.Int()
		e.Host.Boot = r.Int()
		e.Host.Labels = pack.GetList(r, takeLabel)
	case api.EditGone:
		e.Host.Number = r.Int()
	default:
		return api.Edit{}, false
	}
	return e, true
}

func putKey(p *pack.Packer, k api.Key) {
	p.Text(k.Job)
	p.Int(k.Occ)
	p.Int(k.Host)
}

func takeKey(r *pack.Reader) api.Key {
	k := api.Key{Job: r.Text()}
	k.Occ = r.Int()
	k.Host = r.Int()
	return k
}

func putLabel(p *pack.Packer, l api.Label) {
	p.Text(l.Key)
	p.Text(l.Value)
}

func takeLabel(r *pack.Reader) api.Label {
	l := api.Label{Key: r.Text()}
	l.Value = r.Text()
	return l
}
