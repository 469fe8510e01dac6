package book

import (
	"fmt"
	"math"
	"reflect"
	"slices"
	"testing"

	"reveille/api"
	"reveille/catalog"
	"reveille/job"
	"reveille/pack"
	"reveille/plan"
)

const first, last = -62135596800, 253402300799

func wants(t *testing.T, name string, got, want api.Errno) {
	t.Helper()
	if got != want {
		t.Errorf("%s: %d, not %d", name, got, want)
	}
}

func jobOf(t *testing.T, line string) api.Job {
	t.Helper()
	j, e, _ := job.Parse(line)
	if e != api.OK {
		t.Fatal(line, e)
	}
	return j
}

func putJob(t *testing.T, line string) api.Fact {
	t.Helper()
	return api.Fact{Kind: api.FactEdit, Edit: api.Edit{Kind: api.EditPut, Job: jobOf(t, line)}}
}

func dropJob(name string) api.Fact {
	return api.Fact{Kind: api.FactEdit, Edit: api.Edit{Kind: api.EditDrop, Name: name}}
}

func putHost(n int, labels ...api.Label) api.Fact {
	return api.Fact{Kind: api.FactEdit, Edit: api.Edit{Kind: api.EditHost, Host: api.Host{Number: n, Boot: 1, Labels: labels}}}
}

func expand(name string, occ int) api.Fact {
	return api.Fact{Kind: api.FactExpand, Job: name, Occ: occ}
}

func miss(name string, occ int) api.Fact {
	return api.Fact{Kind: api.FactMissed, Job: name, Occ: occ}
}

func key(name string, occ, host int) api.Key { return api.Key{Job: name, Occ: occ, Host: host} }

func sent(k api.Key) api.Fact { return api.Fact{Kind: api.FactSent, Key: k} }

func done(k api.Key, outcome int) api.Fact {
	return api.Fact{Kind: api.FactDone, Key: k, Outcome: outcome}
}

func skip(k api.Key, reason int) api.Fact {
	return api.Fact{Kind: api.FactSkip, Key: k, Reason: reason}
}

func retain(at int) api.Fact { return api.Fact{Kind: api.FactRetain, At: at} }

func mustApply(t *testing.T, b *Book, facts ...api.Fact) {
	t.Helper()
	for _, f := range facts {
		if e := b.Apply(f); e != api.OK {
			t.Fatal(f, e)
		}
	}
}

// some is a book with the jobs a (waves of two), b (on host 2 alone), c (on no host), and the hosts 1 to 4.
func some(t *testing.T) *Book {
	t.Helper()
	b := New()
	mustApply(t, b,
		putJob(t, "a: * * * * *; wave=2; jitter=30; deadline=600"), putJob(t, "b: * * * * *; select=os=x"), putJob(t, "c: * * * * *; select=none"),
		putHost(1), putHost(2, api.Label{Key: "os", Value: "x"}), putHost(3), putHost(4))
	return b
}

// whole is some, with occurrences of all kinds.
func whole(t *testing.T) *Book {
	t.Helper()
	b := some(t)
	mustApply(t, b, expand("a", 120), expand("a", 60), expand("b", 60), expand("c", 120), miss("b", 0), miss("a", 180), miss("b", 180))
	mustApply(t, b, sent(key("a", 60, 1)), sent(key("a", 60, 2)), sent(key("a", 60, 3)), done(key("a", 60, 2), api.Killed), skip(key("a", 60, 3), api.ReasonFull), skip(key("a", 120, 4), api.ReasonHalted))
	return b
}

// state is what a book tells of itself.
type state struct {
	version int
	entries []api.Entry
	hosts   []api.Host
	occs    []api.Occurrence
	open    int
	oldest  int
	is      bool
	length  int
}

func stateOf(b *Book) state {
	s := state{occs: slices.Collect(b.All()), open: b.Open(), length: b.Len()}
	s.oldest, s.is = b.Oldest()
	if c := b.Catalog(); c != nil {
		s.version, s.entries, s.hosts = c.Version(), slices.Collect(c.Entries()), slices.Collect(c.Hosts())
	}
	return s
}

// mustBe: do two states tell the same? (Of lists nil and the empty one are.)
func mustBe(t *testing.T, name string, got, want state) {
	t.Helper()
	if fmt.Sprint(got) != fmt.Sprint(want) {
		t.Errorf("%s: %v, not %v", name, got, want)
	}
}

// mustRefuse: facts that are refused change nothing.
func mustRefuse(t *testing.T, name string, b *Book, want api.Errno, facts ...api.Fact) {
	t.Helper()
	was := stateOf(b)
	for _, f := range facts {
		if e := b.Apply(f); e != want {
			t.Errorf("%s: %v: %d, not %d", name, f, e, want)
		}
	}
	mustBe(t, name, stateOf(b), was)
}

// P22.1

func TestNew(t *testing.T) {
	b := New()
	mustBe(t, "new", stateOf(b), state{})
	if o, ok := b.Get("a", 60); ok || !reflect.DeepEqual(o, api.Occurrence{}) {
		t.Error(o, ok)
	}
	for _, kind := range []int{0, 8, -1, math.MinInt, math.MaxInt} {
		mustRefuse(t, "no kind", whole(t), api.ErrArg, api.Fact{Kind: kind, Job: "a", Occ: 240, Key: key("a", 60, 1)})
	}
}

// Of an edit the catalogue says all.
func TestEdit(t *testing.T) {
	b, c := some(t), catalog.New()
	for e := range b.Catalog().Entries() {
		wants(t, "Apply", c.Apply(api.Edit{Kind: api.EditPut, Job: e.Job, At: e.Since}), api.OK)
	}
	for h := range b.Catalog().Hosts() {
		wants(t, "Apply", c.Apply(api.Edit{Kind: api.EditHost, Host: h}), api.OK)
	}
	for _, e := range []api.Edit{
		{}, {Kind: 6}, {Kind: api.EditPut}, {Kind: api.EditPut, Job: jobOf(t, "a: 1 * * * *"), At: last + 1},
		{Kind: api.EditPut, Job: jobOf(t, "d: 1 * * * *"), At: 7}, {Kind: api.EditDrop, Name: "x"}, {Kind: api.EditDrop, Name: "c"},
		{Kind: api.EditMark, Name: "c", At: 60}, {Kind: api.EditMark, Name: "a", At: 60}, {Kind: api.EditMark, Name: "a", At: first - 1},
		{Kind: api.EditHost, Host: api.Host{Number: 1, Boot: 2}}, {Kind: api.EditHost, Host: api.Host{Number: 1, Boot: 1}},
		{Kind: api.EditHost, Host: api.Host{Number: -1, Boot: 1}}, {Kind: api.EditGone, Host: api.Host{Number: 2}}, {Kind: api.EditGone, Host: api.Host{Number: 2}},
	} {
		if got, want := b.Apply(api.Fact{Kind: api.FactEdit, Edit: e}), c.Apply(e); got != want {
			t.Error(e, got, want)
		}
		if fmt.Sprint(slices.Collect(b.Catalog().Entries()), slices.Collect(b.Catalog().Hosts())) != fmt.Sprint(slices.Collect(c.Entries()), slices.Collect(c.Hosts())) || b.Catalog().Version() != c.Version() {
			t.Error(e, "another catalogue")
		}
	}
}

func TestExpand(t *testing.T) {
	b := some(t)
	mustApply(t, b, expand("a", 60), expand("b", 60), expand("c", 60), expand("a", first), expand("b", -120))
	entry, _ := b.Catalog().Entry("a")
	runs, _ := plan.Runs(entry.Job, 1, 60, []int{1, 2, 3, 4})
	o, ok := b.Get("a", 60)
	if !ok || !job.Same(o.Job, entry.Job) || o.Version != 1 || o.Occ != 60 || o.Missed || len(o.Steps) != 4 {
		t.Fatal(o, ok)
	}
	for i, s := range o.Steps {
		if s != (api.Step{Run: runs[i], State: api.StepWaiting}) {
			t.Error(s, runs[i])
		}
	}
	if o, _ := b.Get("b", 60); o.Version != 2 || len(o.Steps) != 1 || o.Steps[0].Run.Key.Host != 2 {
		t.Error(o)
	}
	if o, _ := b.Get("c", 60); o.Version != 3 || len(o.Steps) != 0 || o.Missed {
		t.Error(o)
	}
	var order []string
	for o := range b.All() {
		order = append(order, fmt.Sprint(o.Job.Name, o.Occ))
	}
	if want := []string{"a-62135596800", "b-120", "a60", "b60", "c60"}; !slices.Equal(order, want) {
		t.Error(order, want)
	}
	// What was expanded stays as it was, whatever becomes of the job and the hosts.
	was, _ := b.Get("a", 60)
	mustApply(t, b, putJob(t, "a: 5 * * * *"), putHost(9), dropJob("b"))
	if now, _ := b.Get("a", 60); !reflect.DeepEqual(now, was) {
		t.Error(now, was)
	}
	mustApply(t, b, expand("a", 120))
	if o, _ := b.Get("a", 120); o.Version != 4 || len(o.Steps) != 5 || o.Job.Wave != 0 {
		t.Error(o)
	}
	if _, ok := b.Get("b", 60); !ok {
		t.Error("b is gone")
	}
	mustRefuse(t, "dropped", b, api.ErrNone, expand("b", 180), miss("b", 180))
}

func TestExpandMayNot(t *testing.T) {
	b := whole(t)
	for _, of := range []func(string, int) api.Fact{expand, miss} {
		mustRefuse(t, "no job", b, api.ErrNone, of("", 60), of("x", 60), of("x", 61), of("A", 240))
		mustRefuse(t, "there", b, api.ErrTwice, of("a", 60), of("a", 180), of("b", 0), of("b", 60), of("c", 120))
		mustRefuse(t, "no moment", b, api.ErrArg, of("a", 61), of("a", -1), of("a", 59), of("a", first-60), of("a", first-1), of("a", last), of("a", last+1), of("a", math.MinInt), of("a", math.MaxInt))
	}
	// Its end would be no time: it may be missed, but not run.
	mustRefuse(t, "no plan", b, api.ErrArg, expand("a", last-59), expand("a", last-599))
	mustApply(t, b, expand("a", last-659), miss("a", last-59), miss("a", first))
}

func TestMissed(t *testing.T) {
	b := some(t)
	mustApply(t, b, miss("b", 60))
	o, ok := b.Get("b", 60)
	if want := (api.Occurrence{Job: jobOf(t, "b: * * * * *; select=os=x"), Version: 2, Occ: 60, Missed: true}); !ok || !reflect.DeepEqual(o, want) {
		t.Error(o, want)
	}
	mustRefuse(t, "no run", b, api.ErrNone, sent(key("b", 60, 2)), done(key("b", 60, 2), 1), skip(key("b", 60, 2), 1))
}

func TestFull(t *testing.T) {
	b := some(t)
	for i := range api.MaxOccs {
		f := miss("b", 60*i)
		if i%3 == 0 {
			f = expand("b", 60*i)
		}
		mustApply(t, b, f)
	}
	for _, of := range []func(string, int) api.Fact{expand, miss} {
		mustRefuse(t, "full", b, api.ErrFull, of("a", 60), of("b", -60), of("b", 60*512))
		mustRefuse(t, "full, and there", b, api.ErrTwice, of("b", 60))
		mustRefuse(t, "full, and no job", b, api.ErrNone, of("x", 60))
		mustRefuse(t, "full, and no moment", b, api.ErrArg, of("a", 61))
	}
	mustRefuse(t, "full, and no plan", b, api.ErrArg, expand("a", last-59))
	// One that is gone makes room for one.
	mustApply(t, b, sent(key("b", 0, 2)), done(key("b", 0, 2), api.Good), retain(1), expand("a", 0))
	mustRefuse(t, "full again", b, api.ErrFull, expand("a", 60))
	mustApply(t, b, retain(120), expand("a", 60))
}

func TestSteps(t *testing.T) {
	k := key("a", 60, 3)
	at := func(name string, b *Book, want api.Status) {
		t.Helper()
		want.Known = true
		if got := b.Status(k); got != want {
			t.Error(name, got, want)
		}
		o, _ := b.Get("a", 60)
		others := 0
		for _, s := range o.Steps {
			if s.Run.Key == k && (s.State != want.State || s.Outcome != want.Outcome || s.Reason != want.Reason) {
				t.Error(name, s)
			}
			if s.Run.Key != k && s.State == api.StepWaiting {
				others++
			}
		}
		if others != 3 {
			t.Error(name, "others", o.Steps)
		}
	}
	fresh := func() *Book {
		b := some(t)
		mustApply(t, b, expand("a", 60), expand("a", 120), expand("b", 60))
		return b
	}
	closed := func(b *Book) {
		t.Helper()
		mustRefuse(t, "it stays so", b, api.ErrOrder, sent(k), done(k, api.Good), done(k, api.Bad), skip(k, api.ReasonOld), skip(k, api.ReasonLost))
	}
	for outcome := api.Good; outcome <= api.Interrupted; outcome++ {
		b := fresh()
		at("expanded", b, api.Status{State: api.StepWaiting})
		mustRefuse(t, "not sent", b, api.ErrOrder, done(k, outcome))
		mustApply(t, b, sent(k))
		at("sent", b, api.Status{State: api.StepSent})
		mustRefuse(t, "sent", b, api.ErrOrder, sent(k))
		mustRefuse(t, "no outcome", b, api.ErrArg, done(k, 0), done(k, 5), done(k, -1), done(k, math.MinInt), done(k, math.MaxInt))
		mustApply(t, b, done(k, outcome))
		at("done", b, api.Status{State: api.StepDone, Outcome: outcome})
		closed(b)
	}
	for reason := api.ReasonOld; reason <= api.ReasonLost; reason++ {
		for _, ahead := range [][]api.Fact{nil, {sent(k)}} {
			b := fresh()
			mustApply(t, b, ahead...)
			mustRefuse(t, "no reason", b, api.ErrArg, skip(k, 0), skip(k, 8), skip(k, -1), skip(k, math.MinInt), skip(k, math.MaxInt))
			mustApply(t, b, skip(k, reason))
			at("skipped", b, api.Status{State: api.StepSkipped, Reason: reason})
			closed(b)
		}
	}
	// The first error is told.
	b := fresh()
	for _, other := range []api.Key{{}, key("a", 60, 5), key("a", 60, 0), key("a", 60, -1), key("a", 60, math.MaxInt), key("a", 180, 3), key("a", 61, 3), key("b", 60, 3), key("c", 60, 3), key("x", 60, 3)} {
		mustRefuse(t, "no run", b, api.ErrNone, sent(other), done(other, 1), done(other, 0), skip(other, 1), skip(other, 0))
	}
	mustRefuse(t, "no outcome ahead of the order", b, api.ErrArg, done(k, 0))
	mustApply(t, b, skip(k, 1))
	mustRefuse(t, "no reason ahead of the order", b, api.ErrArg, skip(k, 0), done(k, 5))
}

// Example 1.
func TestExample(t *testing.T) {
	b, k := some(t), key("b", 60, 2)
	mustApply(t, b, expand("b", 60), sent(k), done(k, api.Good))
	wants(t, "done", b.Apply(done(k, api.Good)), api.ErrOrder)
}

func TestRetain(t *testing.T) {
	b := whole(t)
	mustRefuse(t, "no time", b, api.ErrArg, retain(first-1), retain(last+1), retain(math.MinInt), retain(math.MaxInt))
	left := func(at int, want ...string) {
		t.Helper()
		mustApply(t, b, retain(at))
		var got []string
		for o := range b.All() {
			got = append(got, fmt.Sprint(o.Job.Name, o.Occ))
		}
		if !slices.Equal(got, want) {
			t.Error(at, got, want)
		}
	}
	left(first, "b0", "a60", "b60", "a120", "c120", "a180", "b180")
	left(0, "b0", "a60", "b60", "a120", "c120", "a180", "b180")
	left(120, "a60", "b60", "a120", "c120", "a180", "b180")
	left(121, "a60", "b60", "a120", "a180", "b180")
	mustApply(t, b, skip(key("b", 60, 2), 1), done(key("a", 60, 1), api.Good))
	left(61, "a60", "a120", "a180", "b180")
	mustApply(t, b, sent(key("a", 60, 4)))
	left(61, "a60", "a120", "a180", "b180")
	mustApply(t, b, done(key("a", 60, 4), api.Bad))
	left(60, "a60", "a120", "a180", "b180")
	left(180, "a120", "a180", "b180")
	left(last, "a120")
	// What is gone may be there again.
	mustApply(t, b, expand("b", 0), miss("a", 60))
	left(first, "b0", "a60", "a120")
}

// P22.2

func TestGetAndStatus(t *testing.T) {
	b := whole(t)
	for o := range b.All() {
		got, ok := b.Get(o.Job.Name, o.Occ)
		if !ok || !reflect.DeepEqual(got, o) {
			t.Error(got, ok, o)
		}
		for _, s := range o.Steps {
			if got, want := b.Status(s.Run.Key), (api.Status{State: s.State, Outcome: s.Outcome, Reason: s.Reason, Known: true}); got != want {
				t.Error(got, want)
			}
		}
	}
	for _, one := range []struct {
		job string
		occ int
	}{{"a", 0}, {"b", 120}, {"c", 60}, {"", 60}, {"x", 60}, {"a", 61}, {"a", math.MinInt}, {"a", math.MaxInt}} {
		if o, ok := b.Get(one.job, one.occ); ok || !reflect.DeepEqual(o, api.Occurrence{}) {
			t.Error(one, o)
		}
		if s := b.Status(key(one.job, one.occ, 1)); s != (api.Status{}) {
			t.Error(one, s)
		}
	}
	for host, want := range map[int]api.Status{
		0: {State: 4, Reason: 6, Known: true}, 2: {State: 4, Reason: 6, Known: true}, 65535: {State: 4, Reason: 6, Known: true},
		-1: {}, 65536: {}, math.MinInt: {}, math.MaxInt: {},
	} {
		if got := b.Status(key("b", 180, host)); got != want {
			t.Error(host, got, want)
		}
	}
	for _, k := range []api.Key{key("a", 60, 0), key("a", 60, 5), key("c", 120, 1)} {
		if got := b.Status(k); got != (api.Status{}) {
			t.Error(k, got)
		}
	}
}

func TestOpenAndOldest(t *testing.T) {
	b := some(t)
	is := func(open, oldest int, there bool) {
		t.Helper()
		got, ok := b.Oldest()
		if b.Open() != open || got != oldest || ok != there {
			t.Error(b.Open(), got, ok, open, oldest, there)
		}
	}
	is(0, 0, false)
	mustApply(t, b, miss("a", -60), expand("c", 0))
	is(0, 0, false)
	mustApply(t, b, expand("b", 120))
	is(1, 120, true)
	mustApply(t, b, expand("b", 60), expand("a", 180))
	is(3, 60, true)
	mustApply(t, b, sent(key("b", 60, 2)))
	is(3, 60, true)
	mustApply(t, b, done(key("b", 60, 2), api.Bad))
	is(2, 120, true)
	mustApply(t, b, skip(key("b", 120, 2), api.ReasonLate))
	is(1, 180, true)
	if b.Len() != 5 {
		t.Error(b.Len())
	}
	for host := 1; host < 5; host++ {
		is(1, 180, true)
		mustApply(t, b, skip(key("a", 180, host), api.ReasonLate))
	}
	is(0, 0, false)
	mustApply(t, b, expand("b", 0))
	is(1, 0, true)
}

// R5: an iterator goes over the book as it is when it is ranged over, may be stopped, and begins anew.
func TestAll(t *testing.T) {
	b := some(t)
	all := b.All()
	for range all {
		t.Error("there is none")
	}
	mustApply(t, b, expand("a", 60), miss("b", 0), expand("c", 60))
	for n := range 4 {
		var got []string
		for o := range all {
			if len(got) == n {
				break
			}
			got = append(got, fmt.Sprint(o.Job.Name, o.Occ))
		}
		if want := []string{"b0", "a60", "c60"}; !slices.Equal(got, want[:n]) {
			t.Error(got, n)
		}
	}
}

// R3: lists that are handed in or answered share nothing with the book.
func TestNothingIsShared(t *testing.T) {
	b := New()
	f := putJob(t, "a: * * * * *; select=os in (x,y)")
	host := putHost(1, api.Label{Key: "os", Value: "x"})
	mustApply(t, b, f, host, expand("a", 60), expand("a", 120))
	// As a text, which shares nothing either.
	was := fmt.Sprint(stateOf(b))
	same := func(name string, b *Book) {
		t.Helper()
		if got := fmt.Sprint(stateOf(b)); got != was {
			t.Errorf("%s: %s, not %s", name, got, was)
		}
	}
	f.Edit.Job.Select[0].Values[0] = "z"
	host.Edit.Host.Labels[0].Value = "z"
	same("handed in", b)
	spoil := func(o api.Occurrence) {
		o.Job.Select[0].Values[0] = "z"
		o.Job.Select[0].Key = "z"
		o.Steps[0].State = 9
		_ = append(o.Steps[:0], api.Step{})
	}
	o, _ := b.Get("a", 60)
	spoil(o)
	same("Get", b)
	for o := range b.All() {
		spoil(o)
	}
	same("All", b)
	c := b.Catalog()
	wants(t, "Apply", c.Apply(dropJob("a").Edit), api.OK)
	other := b.Fork()
	same("a fork", other)
	mustApply(t, other, sent(key("a", 60, 1)), dropJob("a"), retain(last))
	same("Fork", b)
	mustApply(t, b, sent(key("a", 120, 1)), miss("a", 0))
	if other.Status(key("a", 120, 1)).State != api.StepWaiting || other.Len() != 2 {
		t.Error("the fork changed")
	}
}

func TestNil(t *testing.T) {
	for _, b := range []*Book{nil, {}} {
		for kind := range 9 {
			wants(t, "Apply", b.Apply(api.Fact{Kind: kind}), api.ErrClosed)
		}
		if b.Catalog() != nil || b.Fork() != nil || b.Len() != 0 || b.Open() != 0 || b.Status(key("a", 0, 0)) != (api.Status{}) {
			t.Error("nil")
		}
		if at, ok := b.Oldest(); at != 0 || ok {
			t.Error(at, ok)
		}
		if o, ok := b.Get("a", 0); ok || !reflect.DeepEqual(o, api.Occurrence{}) {
			t.Error(o)
		}
		for range b.All() {
			t.Error("All")
		}
		p := pack.New()
		b.Pack(p)
		if got, e := p.Done(); len(got) != 0 || e != api.OK {
			t.Error(got, e)
		}
		b.Pack(nil)
	}
}
