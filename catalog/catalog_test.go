package catalog

import (
	"fmt"
	"math"
	"slices"
	"strings"
	"testing"

	"reveille/api"
	"reveille/job"
	"reveille/pack"
)

// jobOf is the job of a line.
func jobOf(t *testing.T, line string) api.Job {
	t.Helper()
	j, e, place := job.Parse(line)
	if e != api.OK {
		t.Fatal(line, e, place)
	}
	return j
}

// named is a job of a name that has all else as usual.
func named(t *testing.T, name string) api.Job {
	t.Helper()
	return jobOf(t, name+": * * * * *")
}

// whole is a job of a name with all settings.
func whole(t *testing.T, name string) api.Job {
	t.Helper()
	return jobOf(t, name+": */5 1-3 * jan sun; select=os=linux,zone in (a,b),!gpu; jitter=600; wave=10; fail=20; parallel=3; deadline=7200; misfire=all 2")
}

func hostOf(number, boot int, labels ...string) api.Host {
	h := api.Host{Number: number, Boot: boot}
	for _, one := range labels {
		key, value, _ := strings.Cut(one, "=")
		h.Labels = append(h.Labels, api.Label{Key: key, Value: value})
	}
	return h
}

func putting(j api.Job, at int) api.Edit { return api.Edit{Kind: api.EditPut, Job: j, At: at} }

func dropping(name string) api.Edit { return api.Edit{Kind: api.EditDrop, Name: name} }

func marking(name string, at int) api.Edit { return api.Edit{Kind: api.EditMark, Name: name, At: at} }

func hosting(h api.Host) api.Edit { return api.Edit{Kind: api.EditHost, Host: h} }

func going(number int) api.Edit {
	return api.Edit{Kind: api.EditGone, Host: api.Host{Number: number}}
}

func sameEntry(a, b api.Entry) bool {
	return job.Same(a.Job, b.Job) && a.Version == b.Version && a.Since == b.Since
}

func sameHost(a, b api.Host) bool {
	return a.Number == b.Number && a.Boot == b.Boot && slices.Equal(a.Labels, b.Labels)
}

// state is all that a catalogue tells.
type state struct {
	version int
	entries []api.Entry
	hosts   []api.Host
}

func stateOf(c *Catalog) state {
	return state{version: c.Version(), entries: slices.Collect(c.Entries()), hosts: slices.Collect(c.Hosts())}
}

func sameState(a, b state) bool {
	return a.version == b.version && slices.EqualFunc(a.entries, b.entries, sameEntry) && slices.EqualFunc(a.hosts, b.hosts, sameHost)
}

func mustBe(t *testing.T, what any, c *Catalog, want state) {
	t.Helper()
	if got := stateOf(c); !sameState(got, want) {
		t.Errorf("%v: %v, not %v", what, got, want)
	}
}

func mustDo(t *testing.T, c *Catalog, edits ...api.Edit) {
	t.Helper()
	for _, e := range edits {
		if err := c.Apply(e); err != api.OK {
			t.Fatal(e, err)
		}
	}
}

// mustRefuse: the edit is refused, and nothing has changed.
func mustRefuse(t *testing.T, c *Catalog, e api.Edit, want api.Errno) {
	t.Helper()
	was := stateOf(c)
	if got := c.Apply(e); got != want {
		t.Errorf("%v: %d, not %d", e, got, want)
	}
	mustBe(t, e, c, was)
}

// some is a catalogue of a few jobs and hosts.
func some(t *testing.T) *Catalog {
	t.Helper()
	c := New()
	mustDo(t, c,
		putting(whole(t, "b"), 60), putting(named(t, "a"), -5), putting(named(t, "c"), api.MaxTime), putting(named(t, "B"), api.MinTime), dropping("c"),
		hosting(hostOf(7, 1, "os=linux", "zone=a")), hosting(hostOf(65535, api.MaxBoot)), hosting(hostOf(0, 3, "gpu", "os=linux", "zone=b")),
	)
	return c
}

func someState(t *testing.T) state {
	t.Helper()
	return state{
		version: 5,
		entries: []api.Entry{{Job: named(t, "B"), Version: 4, Since: api.MinTime}, {Job: named(t, "a"), Version: 2, Since: -5}, {Job: whole(t, "b"), Version: 1, Since: 60}},
		hosts:   []api.Host{hostOf(0, 3, "gpu", "os=linux", "zone=b"), hostOf(7, 1, "os=linux", "zone=a"), hostOf(65535, api.MaxBoot)},
	}
}

// P15.1: New

func TestNew(t *testing.T) {
	c := New()
	mustBe(t, "New", c, state{})
	if e, ok := c.Entry("a"); ok || !sameEntry(e, api.Entry{}) {
		t.Error("Entry", e, ok)
	}
	if h, ok := c.Host(0); ok || !sameHost(h, api.Host{}) {
		t.Error("Host", h, ok)
	}
	if l := c.Chosen(named(t, "a")); len(l) != 0 {
		t.Error("Chosen", l)
	}
	mustBe(t, "Fork", c.Fork(), state{})
}

// The chapter's example.

func TestExample(t *testing.T) {
	c := New()
	for i, name := range []string{"a", "b", "a"} {
		mustDo(t, c, putting(named(t, name), 0))
		e, ok := c.Entry(name)
		if !ok || e.Version != i+1 || c.Version() != i+1 {
			t.Error(name, e, ok, c.Version())
		}
	}
	mustBe(t, "example", c, state{version: 3, entries: []api.Entry{{Job: named(t, "a"), Version: 3}, {Job: named(t, "b"), Version: 2}}})
}

// P15.2

func TestSome(t *testing.T) { mustBe(t, "some", some(t), someState(t)) }

func TestEntry(t *testing.T) {
	c := some(t)
	for _, want := range someState(t).entries {
		if got, ok := c.Entry(want.Job.Name); !ok || !sameEntry(got, want) {
			t.Error(got, ok, want)
		}
	}
	for _, name := range []string{"", "A", "c", "aa", "b ", "z", strings.Repeat("a", 5000)} {
		if got, ok := c.Entry(name); ok || !sameEntry(got, api.Entry{}) {
			t.Error(name, got, ok)
		}
	}
}

func TestHost(t *testing.T) {
	c := some(t)
	for _, want := range someState(t).hosts {
		if got, ok := c.Host(want.Number); !ok || !sameHost(got, want) {
			t.Error(got, ok, want)
		}
	}
	for _, number := range []int{1, 6, 8, 65534, 65536, -1, math.MaxInt, math.MinInt} {
		if got, ok := c.Host(number); ok || !sameHost(got, api.Host{}) {
			t.Error(number, got, ok)
		}
	}
}

func TestOrder(t *testing.T) {
	c := New()
	names := []string{"m", "z", "a", "Z", "ab", "a-", "0", "/", "_", ".", "a/b", "M1"}
	numbers := []int{9, 0, 65535, 100, 10, 99, 1}
	for _, name := range names {
		mustDo(t, c, putting(named(t, name), 0))
	}
	for _, number := range numbers {
		mustDo(t, c, hosting(hostOf(number, 1)))
	}
	var gotNames []string
	for e := range c.Entries() {
		gotNames = append(gotNames, e.Job.Name)
	}
	var gotNumbers []int
	for h := range c.Hosts() {
		gotNumbers = append(gotNumbers, h.Number)
	}
	slices.Sort(names)
	slices.Sort(numbers)
	if !slices.Equal(gotNames, names) || !slices.Equal(gotNumbers, numbers) {
		t.Error(gotNames, gotNumbers)
	}
}

// R5: an iterator begins anew, may be stopped, and is of the catalogue as it is then.

func TestIterators(t *testing.T) {
	c := New()
	entries, hosts := c.Entries(), c.Hosts()
	want := someState(t)
	for range 2 {
		for range entries {
			t.Error("an entry")
		}
		for range hosts {
			t.Error("a host")
		}
	}
	*c = *some(t)
	for range 2 {
		if got := slices.Collect(entries); !slices.EqualFunc(got, want.entries, sameEntry) {
			t.Error(got)
		}
		if got := slices.Collect(hosts); !slices.EqualFunc(got, want.hosts, sameHost) {
			t.Error(got)
		}
	}
	for stop := 1; stop <= 3; stop++ {
		n := 0
		for e := range entries {
			if !sameEntry(e, want.entries[n]) {
				t.Error(stop, n, e)
			}
			if n++; n == stop {
				break
			}
		}
		m := 0
		for h := range hosts {
			if !sameHost(h, want.hosts[m]) {
				t.Error(stop, m, h)
			}
			if m++; m == stop {
				break
			}
		}
		if n != stop || m != stop {
			t.Error(stop, n, m)
		}
	}
	mustDo(t, c, dropping("a"), going(7))
	if got := slices.Collect(entries); len(got) != 2 || got[1].Job.Name != "b" {
		t.Error(got)
	}
	if got := slices.Collect(hosts); len(got) != 2 || got[1].Number != 65535 {
		t.Error(got)
	}
}

func TestIteratorsWithin(t *testing.T) {
	c := some(t)
	n := 0
	for range c.Entries() {
		for range c.Entries() {
			for range c.Hosts() {
				n++
			}
		}
	}
	if n != 27 {
		t.Error(n)
	}
}

func TestChosen(t *testing.T) {
	c := some(t)
	for selector, want := range map[string][]int{
		"":                       {0, 7, 65535},
		"os=linux":               {0, 7},
		"os=linux, zone in (a)":  {7},
		"os=linux, !gpu":         {7},
		"gpu":                    {0},
		"gpu=":                   {0},
		"!os":                    {65535},
		"os!=linux":              {65535},
		"zone notin (b)":         {7, 65535},
		"os=bsd":                 nil,
		"zone in (a,b),os=linux": {0, 7},
	} {
		j := jobOf(t, "x: * * * * *; select="+selector)
		if got := c.Chosen(j); !slices.Equal(got, want) {
			t.Errorf("%q: %v", selector, got)
		}
		// Of the job nothing but Select is asked, and it need be none of the catalogue's.
		if got := c.Chosen(api.Job{Select: j.Select}); !slices.Equal(got, want) {
			t.Errorf("%q alone: %v", selector, got)
		}
	}
	for _, clause := range []api.Clause{{}, {Kind: 5, Key: "os"}, {Kind: 1, Key: "os"}} {
		if got := c.Chosen(api.Job{Select: []api.Clause{clause}}); len(got) != 0 {
			t.Error(clause, got)
		}
	}
	mustDo(t, c, hosting(hostOf(3, 1, "gpu=x")), going(0))
	if got := c.Chosen(jobOf(t, "x: * * * * *; select=gpu")); !slices.Equal(got, []int{3}) {
		t.Error(got)
	}
}

func TestFork(t *testing.T) {
	c := some(t)
	fork := c.Fork()
	mustBe(t, "fork", fork, someState(t))
	mustDo(t, fork, putting(named(t, "aa"), 1), marking("a", 100), marking("b", 100), dropping("B"), hosting(hostOf(7, 2, "x=y")), hosting(hostOf(1, 1)), going(0))
	mustBe(t, "the first one", c, someState(t))
	kept := stateOf(fork)
	mustDo(t, c, putting(named(t, "b"), 7), marking("a", 50), dropping("a"), hosting(hostOf(7, 9)), going(65535))
	mustBe(t, "the fork", fork, kept)
	if !slices.Equal(fork.Chosen(api.Job{}), []int{1, 7, 65535}) || fork.Version() != 7 {
		t.Error(fork.Chosen(api.Job{}), fork.Version())
	}
}

// R3

func TestNothingIsKept(t *testing.T) {
	c := New()
	j := whole(t, "b")
	values := append(make([]string, 0, 5), "a", "b")
	behind := values[:5]
	behind[2] = "behind"
	j.Select[1].Values = values
	h := hostOf(3, 1, "os=linux", "zone=a")
	mustDo(t, c, putting(j, 5), hosting(h))
	if !job.Same(j, whole(t, "b")) || !sameHost(h, hostOf(3, 1, "os=linux", "zone=a")) || behind[2] != "behind" {
		t.Error("changed", j, h, behind)
	}
	j.Select[1].Values[0], j.Select[0].Key = "x", "y"
	h.Labels[0].Value = "bsd"
	want := state{version: 1, entries: []api.Entry{{Job: whole(t, "b"), Version: 1, Since: 5}}, hosts: []api.Host{hostOf(3, 1, "os=linux", "zone=a")}}
	mustBe(t, "kept", c, want)
}

// spoil changes all that an answer's lists hold, and their room behind.
func spoil(l []api.Clause) {
	l = l[:cap(l)]
	for i := range l {
		values := l[i].Values[:cap(l[i].Values)]
		for place := range values {
			values[place] = "spoilt"
		}
		l[i] = api.Clause{Kind: 9, Key: "spoilt"}
	}
}

func spoilLabels(l []api.Label) {
	l = l[:cap(l)]
	for i := range l {
		l[i] = api.Label{Key: "spoilt", Value: "spoilt"}
	}
}

func TestNothingIsShared(t *testing.T) {
	c := some(t)
	fork := c.Fork()
	e, _ := c.Entry("b")
	spoil(e.Job.Select)
	for e := range c.Entries() {
		spoil(e.Job.Select)
	}
	h, _ := c.Host(7)
	spoilLabels(h.Labels)
	for h := range c.Hosts() {
		spoilLabels(h.Labels)
	}
	numbers := c.Chosen(api.Job{})
	numbers[0] = 99
	mustBe(t, "spoilt", c, someState(t))
	for e := range fork.Entries() {
		spoil(e.Job.Select)
	}
	mustBe(t, "fork", fork, someState(t))
	if !slices.Equal(c.Chosen(api.Job{}), []int{0, 7, 65535}) {
		t.Error(c.Chosen(api.Job{}))
	}
}

// Of a nil Catalog, and of one that no call made.

func TestClosed(t *testing.T) {
	for name, c := range map[string]*Catalog{"nil": nil, "zero": {}} {
		for kind := range 7 {
			e := api.Edit{Kind: kind, Job: named(t, "a"), Name: "a", Host: hostOf(1, 1)}
			if got := c.Apply(e); got != api.ErrClosed {
				t.Error(name, kind, got)
			}
		}
		mustBe(t, name, c, state{})
		for range c.Entries() {
			t.Error(name, "Entries")
		}
		if e, ok := c.Entry("a"); ok || !sameEntry(e, api.Entry{}) {
			t.Error(name, e, ok)
		}
		if h, ok := c.Host(1); ok || !sameHost(h, api.Host{}) {
			t.Error(name, h, ok)
		}
		if l := c.Chosen(named(t, "a")); len(l) != 0 {
			t.Error(name, l)
		}
		if f := c.Fork(); f != nil {
			t.Error(name, f)
		}
		p := pack.New()
		c.Put(p)
		c.Put(nil)
		if b, e := p.Done(); len(b) != 0 || e != api.OK {
			t.Error(name, b, e)
		}
	}
}

// manyJobs is edits that put as many jobs.
func manyJobs(t *testing.T, n int) []api.Edit {
	t.Helper()
	var edits []api.Edit
	for i := range n {
		edits = append(edits, putting(named(t, fmt.Sprintf("j%03d", i)), i))
	}
	return edits
}

// manyHosts is edits that put as many hosts, of even numbers.
func manyHosts(n int) []api.Edit {
	var edits []api.Edit
	for i := range n {
		edits = append(edits, hosting(hostOf(2*i, 5)))
	}
	return edits
}
