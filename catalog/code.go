package catalog

import (
	"reveille/api"
	"reveille/job"
	"reveille/pack"
)

// Put packs the catalogue.
func (c *Catalog) Put(p *pack.Packer) {
	if c.closed() {
		return
	}
	p.Int(c.version)
	pack.PutList(p, c.entries, packEntry)
	pack.PutList(p, c.hosts, packHost)
}

// Get reads a catalogue that was packed; nil, if there is no such one.
func Get(r *pack.Reader) *Catalog {
	c := New()
	// All is read ahead of all judging: what may not be does not keep the reader from what is behind it.
	c.version = r.Int()
	c.entries = pack.GetList(r, readEntry)
	c.hosts = pack.GetList(r, readHost)
	if r.Failed() || !c.sound() {
		return nil
	}
	return c
}

func packEntry(p *pack.Packer, e api.Entry) {
	job.Put(p, e.Job)
	p.Int(e.Version)
	p.Int(e.Since)
}

func readEntry(r *pack.Reader) api.Entry {
	e := api.Entry{Job: job.Get(r)}
	e.Version = r.Int()
	e.Since = r.Int()
	return e
}

func packHost(p *pack.Packer, h api.Host) {
	p.Int(h.Number)
	p.Int(h.Boot)
	pack.PutList(p, h.Labels, packLabel)
}

func readHost(r *pack.Reader) api.Host {
	h := api.Host{Number: r.Int()}
	h.Boot = r.Int()
	h.Labels = pack.GetList(r, readLabel)
	return h
}

func packLabel(p *pack.Packer, l api.Label) {
	p.Text(l.Key)
	p.Text(l.Value)
}

func readLabel(r *pack.Reader) api.Label {
	l := api.Label{Key: r.Text()}
	l.Value = r.Text()
	return l
}

// sound: may what was read be a catalogue?
func (c *Catalog) sound() bool {
	if c.version < 0 || c.version > api.MaxBoot || len(c.entries) > api.MaxJobs || len(c.hosts) > api.MaxCatalogue {
		return false
	}
	for e := range c.Entries() {
		if !job.May(e.Job) || e.Version < 1 || e.Version > c.version || !isTime(e.Since) {
			return false
		}
	}
	for h := range c.Hosts() {
		if !mayHost(h) {
			return false
		}
	}
	return rise(c.entries, nameOf) && rise(c.hosts, numberOf)
}
