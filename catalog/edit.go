package catalog

import (
	"slices"

	"reveille/api"
	"reveille/civil"
	"reveille/job"
	"reveille/wire"
)

// Apply makes an edit.
func (c *Catalog) Apply(e api.Edit) api.Errno {
	if c.closed() {
		return api.ErrClosed
	}
	edit, ok := editOf(e.Kind)
	if !ok {
		return api.ErrArg
	}
	return edit(c, e)
}

// editOf is what a kind of edits does, and whether it is one.
func editOf(kind int) (func(c *Catalog, e api.Edit) api.Errno, bool) {
	switch kind {
	case api.EditPut:
		return (*Catalog).putJob, true
	case api.EditDrop:
		return (*Catalog).dropJob, true
	case api.EditMark:
		return (*Catalog).markJob, true
	case api.EditHost:
		return (*Catalog).putHost, true
	case api.EditGone:
		return (*Catalog).dropHost, true
	}
	return nil, false
}

func (c *Catalog) putJob(e api.Edit) api.Errno {
	if !job.May(e.Job) || !isTime(e.At) {
		return api.ErrArg
	}
	_, there := find(c.entries, nameOf, e.Job.Name)
	if !there && len(c.entries) >= api.MaxJobs || c.version >= api.MaxBoot {
		return api.ErrFull
	}
	c.version++
	entry := api.Entry{Job: e.Job, Version: c.version, Since: e.At}
	c.entries = put(c.entries, nameOf, copyEntry(entry))
	return api.OK
}

func (c *Catalog) dropJob(e api.Edit) api.Errno {
	place, there := find(c.entries, nameOf, e.Name)
	switch {
	case !there:
		return api.ErrNone
	case c.version >= api.MaxBoot:
		return api.ErrFull
	}
	c.version++
	c.entries = slices.Delete(c.entries, place, place+1)
	return api.OK
}

func (c *Catalog) markJob(e api.Edit) api.Errno {
	if !isTime(e.At) {
		return api.ErrArg
	}
	place, there := find(c.entries, nameOf, e.Name)
	if !there {
		return api.ErrNone
	}
	since := &c.entries[place].Since
	*since = max(*since, e.At)
	return api.OK
}

func (c *Catalog) putHost(e api.Edit) api.Errno {
	if !mayHost(e.Host) {
		return api.ErrArg
	}
	place, there := find(c.hosts, numberOf, e.Host.Number)
	switch {
	case !there && len(c.hosts) >= api.MaxCatalogue:
		return api.ErrFull
	case there && c.hosts[place].Boot > e.Host.Boot:
		return api.ErrTwice
	}
	c.hosts = put(c.hosts, numberOf, copyHost(e.Host))
	return api.OK
}

func (c *Catalog) dropHost(e api.Edit) api.Errno {
	place, there := find(c.hosts, numberOf, e.Host.Number)
	if !there {
		return api.ErrNone
	}
	c.hosts = slices.Delete(c.hosts, place, place+1)
	return api.OK
}

func isTime(t int) bool {
	_, e := civil.Of(t)
	return e == api.OK
}

// mayHost: a host may be, if it may register itself.
func mayHost(h api.Host) bool {
	return wire.May(api.Message{Kind: api.MsgRegister, Key: api.Key{Host: h.Number}, Boot: h.Boot, Labels: h.Labels})
}
