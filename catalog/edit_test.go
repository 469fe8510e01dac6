package catalog

import (
	"fmt"
	"math"
	"slices"
	"strings"
	"testing"

	"reveille/api"
	"reveille/job"
	"reveille/pack"
)

// noTimes is numbers that are no times.
func noTimes() []int {
	return []int{api.MinTime - 1, api.MaxTime + 1, math.MinInt, math.MaxInt}
}

// P15.1: kinds

func TestNoKind(t *testing.T) {
	c := some(t)
	for _, kind := range []int{0, 6, -1, 7, math.MinInt, math.MaxInt} {
		mustRefuse(t, c, api.Edit{Kind: kind, Job: named(t, "a"), Name: "a", At: 5, Host: hostOf(7, 2)}, api.ErrArg)
	}
	for kind := 1; kind <= 5; kind++ {
		if e := c.Apply(api.Edit{Kind: kind, Job: named(t, "a"), Name: "a", At: 5, Host: hostOf(7, 2)}); e != api.OK && e != api.ErrNone {
			t.Error(kind, e)
		}
	}
}

// P15.1: EditPut

func TestPutJob(t *testing.T) {
	c := New()
	for i, at := range []int{0, 61, -61, api.MaxTime, api.MinTime} {
		mustDo(t, c, putting(whole(t, "x"), at))
		// The entry is as it was put: an earlier Since too.
		mustBe(t, at, c, state{version: i + 1, entries: []api.Entry{{Job: whole(t, "x"), Version: i + 1, Since: at}}})
	}
	mustDo(t, c, putting(named(t, "x"), 9))
	mustBe(t, "another one of its name", c, state{version: 6, entries: []api.Entry{{Job: named(t, "x"), Version: 6, Since: 9}}})
	mustDo(t, c, putting(named(t, "x"), 9))
	if c.Version() != 7 {
		t.Error("the same again", c.Version())
	}
	// What the kind has not is not looked at.
	e := putting(named(t, "y"), 1)
	e.Name, e.Host = "z z", api.Host{Number: -1}
	mustDo(t, c, e)
	mustBe(t, "further fields", c, state{version: 8, entries: []api.Entry{{Job: named(t, "x"), Version: 7, Since: 9}, {Job: named(t, "y"), Version: 8, Since: 1}}})
}

func TestPutJobRefused(t *testing.T) {
	c := some(t)
	for _, do := range []func(j *api.Job){
		func(j *api.Job) { *j = api.Job{} },
		func(j *api.Job) { j.Name = "" },
		func(j *api.Job) { j.Name = "a b" },
		func(j *api.Job) { j.Spec = api.Spec{} },
		func(j *api.Job) { j.Select = []api.Clause{{Kind: 5, Key: "a"}} },
		func(j *api.Job) { j.Jitter = 3600 },
		func(j *api.Job) { j.Wave = -1 },
		func(j *api.Job) { j.Fail = 101 },
		func(j *api.Job) { j.Parallel = 65537 },
		func(j *api.Job) { j.Deadline = 59 },
		func(j *api.Job) { j.Misfire = 4 },
		func(j *api.Job) { j.Bound = 1 },
	} {
		for _, name := range []string{"a", "new"} {
			j := named(t, name)
			do(&j)
			mustRefuse(t, c, putting(j, 5), api.ErrArg)
		}
	}
	for _, at := range noTimes() {
		mustRefuse(t, c, putting(named(t, "a"), at), api.ErrArg)
		mustRefuse(t, c, putting(named(t, "new"), at), api.ErrArg)
	}
}

func TestManyJobs(t *testing.T) {
	c := New()
	mustDo(t, c, manyJobs(t, 256)...)
	for _, name := range []string{"j256", "a", "z", "j0000"} {
		mustRefuse(t, c, putting(named(t, name), 0), api.ErrFull)
	}
	// What may not be is told first.
	mustRefuse(t, c, putting(api.Job{Name: "z"}, 0), api.ErrArg)
	mustRefuse(t, c, putting(named(t, "z"), api.MaxTime+1), api.ErrArg)
	// In the place of one that there is, there is room.
	for i, name := range []string{"j000", "j255", "j100"} {
		mustDo(t, c, putting(whole(t, name), 7))
		if e, ok := c.Entry(name); !ok || !sameEntry(e, api.Entry{Job: whole(t, name), Version: 257 + i, Since: 7}) {
			t.Error(e, ok)
		}
	}
	mustDo(t, c, dropping("j007"), putting(named(t, "z"), 0))
	mustRefuse(t, c, putting(named(t, "j007"), 0), api.ErrFull)
	if n := len(slices.Collect(c.Entries())); n != 256 || c.Version() != 261 {
		t.Error(n, c.Version())
	}
}

// P15.1: the greatest version

// lastVersion is a catalogue of the greatest version but some, of jobs a and b.
func lastVersion(t *testing.T, but int) *Catalog {
	t.Helper()
	p := pack.New()
	p.Int(api.MaxBoot - but)
	pack.PutList(p, []string{"a", "b"}, func(p *pack.Packer, name string) {
		job.Put(p, named(t, name))
		p.Int(1)
		p.Int(0)
	})
	p.Number(0)
	b, e := p.Done()
	c := Get(pack.Read(b))
	if e != api.OK || c == nil {
		t.Fatal(e)
	}
	return c
}

func TestLastVersion(t *testing.T) {
	c := lastVersion(t, 1)
	mustDo(t, c, putting(named(t, "a"), 5))
	for range 2 {
		mustRefuse(t, c, putting(named(t, "a"), 5), api.ErrFull)
		mustRefuse(t, c, putting(named(t, "c"), 5), api.ErrFull)
		mustRefuse(t, c, dropping("a"), api.ErrFull)
		mustRefuse(t, c, dropping("b"), api.ErrFull)
	}
	mustRefuse(t, c, putting(api.Job{}, 5), api.ErrArg)
	mustRefuse(t, c, putting(named(t, "a"), api.MaxTime+1), api.ErrArg)
	mustRefuse(t, c, dropping("c"), api.ErrNone)
	// Edits of hosts and marks leave the version.
	mustDo(t, c, marking("b", 9), hosting(hostOf(1, 1)), hosting(hostOf(2, 1)), going(1))
	mustBe(t, "last", c, state{
		version: api.MaxBoot,
		entries: []api.Entry{{Job: named(t, "a"), Version: api.MaxBoot, Since: 5}, {Job: named(t, "b"), Version: 1, Since: 9}},
		hosts:   []api.Host{hostOf(2, 1)},
	})
	c = lastVersion(t, 1)
	mustDo(t, c, dropping("b"))
	mustRefuse(t, c, dropping("a"), api.ErrFull)
	mustBe(t, "dropped", c, state{version: api.MaxBoot, entries: []api.Entry{{Job: named(t, "a"), Version: 1}}})
}

// P15.1: EditDrop

func TestDropJob(t *testing.T) {
	c := some(t)
	for _, name := range []string{"", "c", "A", "aa", "a ", "zz"} {
		mustRefuse(t, c, dropping(name), api.ErrNone)
	}
	want := someState(t)
	for _, name := range []string{"a", "B", "b"} {
		mustDo(t, c, dropping(name))
		want.version++
		want.entries = slices.DeleteFunc(want.entries, func(e api.Entry) bool { return e.Job.Name == name })
		mustBe(t, name, c, want)
		mustRefuse(t, c, dropping(name), api.ErrNone)
	}
	mustDo(t, c, putting(named(t, "a"), 3))
	mustBe(t, "there again", c, state{version: 9, entries: []api.Entry{{Job: named(t, "a"), Version: 9, Since: 3}}, hosts: want.hosts})
	// The Name is asked, not the Job's; an At that is no time is none of its.
	e := dropping("a")
	e.Job, e.At = named(t, "q"), math.MaxInt
	mustDo(t, c, e)
	mustBe(t, "gone again", c, state{version: 10, hosts: want.hosts})
}

// P15.1: EditMark

func TestMarkJob(t *testing.T) {
	c := New()
	mustDo(t, c, putting(named(t, "a"), 10), putting(named(t, "b"), 10))
	for _, one := range [][2]int{{9, 10}, {10, 10}, {11, 11}, {10, 11}, {-5, 11}, {api.MinTime, 11}, {61, 61}, {api.MaxTime, api.MaxTime}, {0, api.MaxTime}} {
		mustDo(t, c, marking("a", one[0]))
		mustBe(t, one, c, state{version: 2, entries: []api.Entry{{Job: named(t, "a"), Version: 1, Since: one[1]}, {Job: named(t, "b"), Version: 2, Since: 10}}})
	}
	for _, at := range noTimes() {
		mustRefuse(t, c, marking("b", at), api.ErrArg)
		mustRefuse(t, c, marking("none", at), api.ErrArg)
	}
	for _, name := range []string{"", "c", "A", "ab"} {
		mustRefuse(t, c, marking(name, 5), api.ErrNone)
	}
	mustDo(t, c, putting(named(t, "b"), -7), marking("b", -6))
	if e, ok := c.Entry("b"); !ok || e.Since != -6 || e.Version != 3 {
		t.Error(e, ok)
	}
}

// P15.1: EditHost

func TestPutHost(t *testing.T) {
	c := New()
	full := hostOf(65535, api.MaxBoot)
	for i := range 16 {
		full.Labels = append(full.Labels, api.Label{Key: fmt.Sprintf("k%02d", i), Value: strings.Repeat("v", 32)})
	}
	mustDo(t, c, hosting(hostOf(0, 1)), hosting(full), hosting(hostOf(9, 5, "a=1")))
	mustBe(t, "put", c, state{hosts: []api.Host{hostOf(0, 1), hostOf(9, 5, "a=1"), full}})
	// Of the same Boot too, the labels are those that were put last.
	for _, h := range []api.Host{hostOf(9, 5, "a=2", "b"), hostOf(9, 5), hostOf(9, 6, "z"), hostOf(9, api.MaxBoot, "y")} {
		mustDo(t, c, hosting(h))
		mustBe(t, h, c, state{hosts: []api.Host{hostOf(0, 1), h, full}})
	}
	for _, boot := range []int{1, 6, api.MaxBoot - 1} {
		mustRefuse(t, c, hosting(hostOf(9, boot, "y")), api.ErrTwice)
	}
	// A host that was taken away may come with a lesser Boot.
	mustDo(t, c, going(9), hosting(hostOf(9, 1)))
	mustBe(t, "again", c, state{hosts: []api.Host{hostOf(0, 1), hostOf(9, 1), full}})
}

// wrongHosts is hosts that may not be.
func wrongHosts() []api.Host {
	l := []api.Host{
		{}, hostOf(-1, 5), hostOf(65536, 5), hostOf(math.MaxInt, 5), hostOf(math.MinInt, 5),
		hostOf(7, 0), hostOf(7, -1), hostOf(7, api.MaxBoot+1), hostOf(7, math.MaxInt), hostOf(7, math.MinInt),
		hostOf(7, 5, ""), hostOf(7, 5, "a b"), hostOf(7, 5, "a= "), hostOf(7, 5, "a=1=2"), hostOf(7, 5, "b", "a"), hostOf(7, 5, "a", "a"), hostOf(7, 5, "a=1", "a=2"),
		hostOf(7, 5, strings.Repeat("k", 33)), hostOf(7, 5, "k="+strings.Repeat("v", 33)),
	}
	long := hostOf(7, 5)
	for i := range 17 {
		long.Labels = append(long.Labels, api.Label{Key: fmt.Sprintf("k%02d", i)})
	}
	return append(l, long)
}

func TestPutHostRefused(t *testing.T) {
	c := some(t)
	mustDo(t, c, hosting(hostOf(7, 9)))
	for _, h := range wrongHosts() {
		mustRefuse(t, c, hosting(h), api.ErrArg)
	}
	// What the kind has not is not looked at.
	e := hosting(hostOf(8, 1))
	e.At, e.Job.Wave, e.Name = math.MaxInt, -1, " "
	mustDo(t, c, e)
}

func TestManyHosts(t *testing.T) {
	c := New()
	mustDo(t, c, manyHosts(2048)...)
	for _, number := range []int{1, 4095, 4096, 65535} {
		mustRefuse(t, c, hosting(hostOf(number, 5)), api.ErrFull)
	}
	mustRefuse(t, c, hosting(hostOf(65536, 5)), api.ErrArg)
	mustRefuse(t, c, hosting(hostOf(1, 0)), api.ErrArg)
	mustRefuse(t, c, hosting(hostOf(4094, 4)), api.ErrTwice)
	mustDo(t, c, hosting(hostOf(4094, 6, "x")), hosting(hostOf(0, 5, "x")), hosting(hostOf(2000, 7)))
	if l := c.Chosen(jobOf(t, "a: * * * * *; select=x")); !slices.Equal(l, []int{0, 4094}) {
		t.Error(l)
	}
	mustDo(t, c, going(100), hosting(hostOf(65535, 1)))
	mustRefuse(t, c, hosting(hostOf(100, 5)), api.ErrFull)
	if n := len(slices.Collect(c.Hosts())); n != 2048 || c.Version() != 0 {
		t.Error(n, c.Version())
	}
}

// P15.1: EditGone

func TestDropHost(t *testing.T) {
	c := some(t)
	for _, number := range []int{-1, 1, 6, 8, 65536, math.MaxInt, math.MinInt} {
		mustRefuse(t, c, going(number), api.ErrNone)
	}
	want := someState(t)
	for _, number := range []int{7, 65535, 0} {
		mustDo(t, c, going(number))
		want.hosts = slices.DeleteFunc(want.hosts, func(h api.Host) bool { return h.Number == number })
		mustBe(t, number, c, want)
		mustRefuse(t, c, going(number), api.ErrNone)
	}
	// Of Host nothing but its Number is asked.
	mustDo(t, c, hosting(hostOf(3, 7)), api.Edit{Kind: api.EditGone, At: math.MaxInt, Host: hostOf(3, -4, "b", "a")})
	mustBe(t, "gone", c, want)
}
