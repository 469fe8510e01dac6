package catalog

import (
	"bytes"
	"fmt"
	"math"
	"slices"
	"testing"

	"reveille/api"
	"reveille/job"
	"reveille/pack"
)

// packed is a catalogue's bytes, as the chapter has them, of things that need not be.
func packed(t *testing.T, s state) []byte {
	t.Helper()
	p := pack.New()
	p.Int(s.version)
	p.Number(uint64(len(s.entries)))
	for _, e := range s.entries {
		job.Put(p, e.Job)
		p.Int(e.Version)
		p.Int(e.Since)
	}
	p.Number(uint64(len(s.hosts)))
	for _, h := range s.hosts {
		p.Int(h.Number)
		p.Int(h.Boot)
		p.Number(uint64(len(h.Labels)))
		for _, l := range h.Labels {
			p.Text(l.Key)
			p.Text(l.Value)
		}
	}
	b, e := p.Done()
	if e != api.OK {
		t.Fatal("packed", e)
	}
	return b
}

func bytesOf(t *testing.T, c *Catalog) []byte {
	t.Helper()
	p := pack.New()
	c.Put(p)
	b, e := p.Done()
	if e != api.OK {
		t.Fatal("Put", e)
	}
	return b
}

// P15.3: Put

func TestPut(t *testing.T) {
	if b := bytesOf(t, New()); !bytes.Equal(b, []byte{0, 0, 0}) {
		t.Errorf("% x", b)
	}
	if b, want := bytesOf(t, some(t)), packed(t, someState(t)); !bytes.Equal(b, want) {
		t.Errorf("% x, not % x", b, want)
	}
	c := New()
	mustDo(t, c, putting(named(t, "a"), -1), hosting(hostOf(5, 3, "k=v", "l")))
	want := []byte{2, 1, 1, 'a', 9, '*', ' ', '*', ' ', '*', ' ', '*', ' ', '*', 0, 0, 0, 200, 1, 0, 0xA0, 0x38, 2, 0, 2, 1, 1, 10, 6, 2, 1, 'k', 1, 'v', 1, 'l', 0}
	if b := bytesOf(t, c); !bytes.Equal(b, want) {
		t.Errorf("% x, not % x", b, want)
	}
	c.Put(nil)
	mustBe(t, "put", c, stateOf(c.Fork()))
}

func TestPutBehind(t *testing.T) {
	p := pack.New()
	p.Text("ahead")
	some(t).Put(p)
	New().Put(p)
	p.Text("behind")
	b, _ := p.Done()
	r := pack.Read(b)
	if s := r.Text(); s != "ahead" {
		t.Error(s)
	}
	mustBe(t, "first", Get(r), someState(t))
	mustBe(t, "second", Get(r), state{})
	if s := r.Text(); s != "behind" || r.Done() != api.OK {
		t.Error(s, r.Done())
	}
}

// TestPutTooMuch: where a packer has no room for a catalogue, it fails.
func TestPutTooMuch(t *testing.T) {
	c := New()
	for i := range 256 {
		j := named(t, fmt.Sprintf("j%03d", i))
		// A spec without stars has a long text.
		j.Spec = api.Spec{Minutes: 1<<50 - 1, Hours: 1, Days: 2, Months: 2, Weekdays: 1}
		for k := range 3 {
			j.Select = append(j.Select, api.Clause{Kind: 3, Key: fmt.Sprintf("k%030d", k)})
		}
		mustDo(t, c, putting(j, 0))
	}
	p := pack.New()
	c.Put(p)
	if b, e := p.Done(); len(b) != 0 || e != api.ErrLong {
		t.Error(len(b), e)
	}
}

// P15.3, P15.4: Get

func TestGet(t *testing.T) {
	many := New()
	mustDo(t, many, manyJobs(t, 256)...)
	mustDo(t, many, manyHosts(2048)...)
	for _, c := range []*Catalog{New(), some(t), lastVersion(t, 0), many} {
		b := bytesOf(t, c)
		r := pack.Read(b)
		got := Get(r)
		mustBe(t, "got", got, stateOf(c))
		if r.Done() != api.OK || !bytes.Equal(bytesOf(t, got), b) {
			t.Error("there and back", r.Done())
		}
	}
	// It goes on as the other one does.
	c := some(t)
	got := Get(pack.Read(bytesOf(t, c)))
	for _, e := range []api.Edit{putting(named(t, "n"), 5), dropping("a"), marking("b", 99), marking("zz", 1), hosting(hostOf(0, 2)), hosting(hostOf(1, 1)), going(7)} {
		if a, b := c.Apply(e), got.Apply(e); a != b {
			t.Error(e, a, b)
		}
	}
	mustBe(t, "further", got, stateOf(c))
}

func TestGetCut(t *testing.T) {
	b := bytesOf(t, some(t))
	for size := range len(b) {
		r := pack.Read(b[:size])
		if c := Get(r); c != nil || !r.Failed() {
			t.Error(size, c, r.Failed())
		}
	}
	if c := Get(nil); c != nil {
		t.Error("nil", c)
	}
	failed := pack.Read([]byte{7, 0, 0, 0})
	failed.Flag()
	if c := Get(failed); c != nil {
		t.Error("failed", c)
	}
	// Lists that say more than they may.
	for _, b := range [][]byte{{0, 0x81, 0x20}, {0, 0, 0x81, 0x20}, {0, 0, 1, 0, 2, 0x81, 0x20}, {0x80, 0}, {0, 0x80, 0}} {
		r := pack.Read(b)
		if c := Get(r); c != nil || !r.Failed() {
			t.Errorf("% x: %v %v", b, c, r.Failed())
		}
	}
}

// mustGetNone: there is no such catalogue, but it is read to its end.
func mustGetNone(t *testing.T, what any, s state) {
	t.Helper()
	r := pack.Read(append(packed(t, s), 14))
	if c := Get(r); c != nil {
		t.Error(what, stateOf(c))
	}
	if n := r.Int(); n != 7 || r.Done() != api.OK {
		t.Error(what, "left", n, r.Done())
	}
}

func TestGetNone(t *testing.T) {
	for i, do := range []func(s *state){
		func(s *state) { s.version = -1 },
		func(s *state) { s.version = api.MaxBoot + 1 },
		func(s *state) { s.version = math.MaxInt },
		func(s *state) { s.version = math.MinInt },
		func(s *state) { s.version = 3 }, // below an entry's
		func(s *state) { s.version = 0 },
		func(s *state) { s.entries[1].Job = api.Job{} },
		func(s *state) { s.entries[0].Job.Name = "" },
		func(s *state) { s.entries[2].Job.Name = "b b" },
		func(s *state) { s.entries[2].Job.Deadline = 59 },
		func(s *state) { s.entries[2].Job.Bound = 0 },
		func(s *state) { s.entries[0].Job.Spec = api.Spec{} },
		func(s *state) { s.entries[0].Job.Name = "a" },
		func(s *state) { s.entries[1].Job.Name = "B" },
		func(s *state) { s.entries[1].Job.Name = "A" },
		func(s *state) { s.entries[2].Job.Name = "a" },
		func(s *state) { s.entries[0], s.entries[1] = s.entries[1], s.entries[0] },
		func(s *state) { s.entries[1].Version = 0 },
		func(s *state) { s.entries[1].Version = -1 },
		func(s *state) { s.entries[1].Version = 6 },
		func(s *state) { s.entries[2].Version = math.MaxInt },
		func(s *state) { s.entries[0].Since = api.MinTime - 1 },
		func(s *state) { s.entries[2].Since = api.MaxTime + 1 },
		func(s *state) { s.entries[2].Since = math.MinInt },
		func(s *state) { s.hosts[0].Number = -1 },
		func(s *state) { s.hosts[0].Number = 7 },
		func(s *state) { s.hosts[1].Number = 0 },
		func(s *state) { s.hosts[2].Number = 65536 },
		func(s *state) { s.hosts[0], s.hosts[2] = s.hosts[2], s.hosts[0] },
		func(s *state) { s.hosts[1].Boot = 0 },
		func(s *state) { s.hosts[1].Boot = api.MaxBoot + 1 },
		func(s *state) { s.hosts[0].Labels[0].Key = "" },
		func(s *state) { s.hosts[0].Labels[1].Value = "a b" },
		func(s *state) { slices.Reverse(s.hosts[0].Labels) },
		func(s *state) { s.hosts[0].Labels[1].Key = "gpu" },
	} {
		s := someState(t)
		do(&s)
		mustGetNone(t, i, s)
	}
	for i, h := range wrongHosts() {
		mustGetNone(t, i, state{hosts: []api.Host{h}})
	}
	for _, version := range []int{-1, math.MinInt, api.MaxBoot + 1, math.MaxInt} {
		mustGetNone(t, version, state{version: version})
	}
}

func TestGetBounds(t *testing.T) {
	for i, do := range []func(s *state){
		func(s *state) { s.version = 4 },
		func(s *state) { s.version = api.MaxBoot },
		func(s *state) { s.version = api.MaxBoot; s.entries[0].Version = api.MaxBoot },
		func(s *state) { s.entries[0].Version = 5 },
		func(s *state) { s.entries[1].Version = 1 }, // that another one has: no rule is against it
		func(s *state) { s.entries[1].Since = api.MaxTime },
		func(s *state) { s.entries[1].Since = api.MinTime },
		func(s *state) { s.hosts[0].Number = 6 },
		func(s *state) { s.hosts[1].Number = 1 },
		func(s *state) { s.entries = nil },
		func(s *state) { s.hosts = nil },
	} {
		s := someState(t)
		do(&s)
		c := Get(pack.Read(packed(t, s)))
		if c == nil {
			t.Fatal(i)
		}
		mustBe(t, i, c, s)
	}
}

func TestGetTooMany(t *testing.T) {
	var s state
	s.version = 1
	for i := range 256 {
		s.entries = append(s.entries, api.Entry{Job: named(t, fmt.Sprintf("j%03d", i)), Version: 1})
	}
	for i := range 2048 {
		s.hosts = append(s.hosts, hostOf(i, 1))
	}
	mustBe(t, "as many as may be", Get(pack.Read(packed(t, s))), s)
	jobs, hosts := s, s
	jobs.entries = append(slices.Clone(s.entries), api.Entry{Job: named(t, "k"), Version: 1})
	hosts.hosts = append(slices.Clone(s.hosts), hostOf(2048, 1))
	mustGetNone(t, "jobs", jobs)
	mustGetNone(t, "hosts", hosts)
	for i := 2049; i < 4096; i++ {
		hosts.hosts = append(hosts.hosts, hostOf(i, 1))
	}
	mustGetNone(t, "more hosts", hosts)
}

func TestGetIsNew(t *testing.T) {
	b := bytesOf(t, some(t))
	kept := slices.Clone(b)
	r := pack.Read(b)
	c := Get(r)
	if !bytes.Equal(b, kept) {
		t.Error("changed")
	}
	clear(b)
	mustBe(t, "kept", c, someState(t))
}
