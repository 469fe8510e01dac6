package book

import (
	"bytes"
	"fmt"
	"math"
	"math/rand"
	"reflect"
	"slices"
	"strings"
	"testing"

	"reveille/api"
	"reveille/cron"
	"reveille/job"
	"reveille/label"
	"reveille/pack"
)

// bytesOf is what a function packs.
func bytesOf(t *testing.T, put func(p *pack.Packer)) []byte {
	t.Helper()
	p := pack.New()
	put(p)
	b, e := p.Done()
	if e != api.OK {
		t.Fatal("pack", e)
	}
	return b
}

func factBytes(t *testing.T, f api.Fact) []byte {
	t.Helper()
	return bytesOf(t, func(p *pack.Packer) { Put(p, f) })
}

func bookBytes(t *testing.T, b *Book) []byte {
	t.Helper()
	return bytesOf(t, b.Pack)
}

// code is the bytes of things, one behind the other: an int, a bool, a string, a list of these, a job.
func code(t *testing.T, things ...any) []byte {
	t.Helper()
	return bytesOf(t, func(p *pack.Packer) { lay(p, things...) })
}

func lay(p *pack.Packer, things ...any) {
	for _, x := range things {
		switch v := x.(type) {
		case int:
			p.Int(v)
		case bool:
			p.Flag(v)
		case string:
			p.Text(v)
		case api.Job:
			lay(p, v.Name, cron.Print(v.Spec), label.Print(v.Select), v.Jitter, v.Wave, v.Fail, v.Parallel, v.Deadline, v.Misfire, v.Bound)
		case []any:
			p.Number(uint64(len(v)))
			lay(p, flat(v)...)
		}
	}
}

// flat is a list's things, of which each is one, or several of its own.
func flat(l []any) []any {
	var all []any
	for _, x := range l {
		if parts, is := x.(row); is {
			all = append(all, parts...)
		} else {
			all = append(all, x)
		}
	}
	return all
}

// row is a thing of a list that has several parts.
type row []any

func facts(t *testing.T) map[*api.Fact][]byte {
	j := jobOf(t, "back-up: */5 3 * * *; select=os in (x,y); jitter=7; wave=2; fail=9; parallel=4; misfire=all 8; deadline=70")
	k := key("a", -60, 65535)
	edit := func(e api.Edit) *api.Fact { return &api.Fact{Kind: api.FactEdit, Edit: e} }
	return map[*api.Fact][]byte{
		edit(api.Edit{Kind: api.EditPut, Job: j, At: -5}):                                                                       code(t, 1, 1, j, -5),
		edit(api.Edit{Kind: api.EditDrop, Name: "a"}):                                                                           code(t, 1, 2, "a"),
		edit(api.Edit{Kind: api.EditMark, Name: "a", At: 61}):                                                                   code(t, 1, 3, "a", 61),
		edit(api.Edit{Kind: api.EditHost, Host: api.Host{Number: 7, Boot: 3}}):                                                  code(t, 1, 4, 7, 3, []any{}),
		edit(api.Edit{Kind: api.EditHost, Host: api.Host{Number: 7, Boot: 3, Labels: []api.Label{{Key: "k", Value: "v"}}}}):     code(t, 1, 4, 7, 3, []any{row{"k", "v"}}),
		edit(api.Edit{Kind: api.EditHost, Host: api.Host{Number: -7, Boot: -3, Labels: []api.Label{{Key: "k k"}, {Key: "a"}}}}): code(t, 1, 4, -7, -3, []any{row{"k k", ""}, row{"a", ""}}),
		edit(api.Edit{Kind: api.EditGone, Host: api.Host{Number: 7}}):                                                           code(t, 1, 5, 7),
		{Kind: api.FactExpand, Job: "a", Occ: 60}:                                                                               code(t, 2, "a", 60),
		{Kind: api.FactMissed, Job: "", Occ: math.MinInt}:                                                                       code(t, 3, "", math.MinInt),
		{Kind: api.FactSent, Key: k}:                                                                                            code(t, 4, "a", -60, 65535),
		{Kind: api.FactDone, Key: k, Outcome: 3}:                                                                                code(t, 5, "a", -60, 65535, 3),
		{Kind: api.FactDone, Key: api.Key{}, Outcome: -3}:                                                                       code(t, 5, "", 0, 0, -3),
		{Kind: api.FactSkip, Key: k, Reason: 7}:                                                                                 code(t, 6, "a", -60, 65535, 7),
		{Kind: api.FactRetain, At: math.MaxInt}:                                                                                 code(t, 7, math.MaxInt),
	}
}

// P22.3

func TestPutAndTake(t *testing.T) {
	for f, want := range facts(t) {
		b := factBytes(t, *f)
		if !bytes.Equal(b, want) {
			t.Errorf("%v: % x, not % x", *f, b, want)
		}
		r := pack.Read(append(slices.Clone(b), 9))
		got, ok := Take(r)
		if !ok || !reflect.DeepEqual(got, *f) || r.Left() != 1 || r.Failed() {
			t.Error(got, ok, *f, r.Left())
		}
		for n := range b {
			r := pack.Read(b[:n])
			if got, ok := Take(r); ok || !reflect.DeepEqual(got, api.Fact{}) || !r.Failed() {
				t.Error(n, got, ok)
			}
		}
	}
	if got, want := factBytes(t, done(key("a", 60, 5), api.Killed)), []byte{10, 1, 'a', 120, 10, 6}; !bytes.Equal(got, want) {
		t.Errorf("% x", got)
	}
	if got, want := factBytes(t, putHost(5, api.Label{Key: "k"})), []byte{2, 8, 10, 2, 1, 1, 'k', 0}; !bytes.Equal(got, want) {
		t.Errorf("% x", got)
	}
}

// What a kind does not have is not packed.
func TestPutHasNoMore(t *testing.T) {
	whole := api.Fact{Job: "j", Occ: 1, Key: key("k", 2, 3), Outcome: 4, Reason: 5, At: 6, Edit: api.Edit{Name: "n", At: 7, Job: jobOf(t, "e: * * * * *"), Host: api.Host{Number: 8, Boot: 9, Labels: []api.Label{{Key: "l"}}}}}
	of := func(kind, edit int) []byte {
		f := whole
		f.Kind, f.Edit.Kind = kind, edit
		return factBytes(t, f)
	}
	for kind, want := range [][]byte{
		code(t, 0), nil, code(t, 2, "j", 1), code(t, 3, "j", 1), code(t, 4, "k", 2, 3), code(t, 5, "k", 2, 3, 4), code(t, 6, "k", 2, 3, 5), code(t, 7, 6), code(t, 8),
	} {
		if got := of(kind, 1); kind != 1 && !bytes.Equal(got, want) {
			t.Errorf("%d: % x, not % x", kind, got, want)
		}
	}
	for kind, want := range [][]byte{
		code(t, 1, 0), code(t, 1, 1, whole.Edit.Job, 7), code(t, 1, 2, "n"), code(t, 1, 3, "n", 7), code(t, 1, 4, 8, 9, []any{row{"l", ""}}), code(t, 1, 5, 8), code(t, 1, 6),
	} {
		if got := of(1, kind); !bytes.Equal(got, want) {
			t.Errorf("edit %d: % x, not % x", kind, got, want)
		}
	}
	for _, kind := range []int{-1, math.MinInt, math.MaxInt} {
		if !bytes.Equal(of(kind, 1), code(t, kind)) || !bytes.Equal(of(1, kind), code(t, 1, kind)) {
			t.Error(kind)
		}
	}
	Put(nil, whole)
	p := pack.New()
	Put(p, api.Fact{Kind: api.FactExpand, Job: strings.Repeat("a", 4097)})
	if _, e := p.Done(); e != api.ErrLong {
		t.Error("too long", e)
	}
}

func TestTakeMayNot(t *testing.T) {
	bad := jobOf(t, "a: * * * * *")
	bad.Deadline = 59
	for _, b := range [][]byte{
		nil, code(t, 0), code(t, 8), code(t, -1), code(t, math.MinInt), code(t, 1, 0), code(t, 1, 6), code(t, 1, -1),
		code(t, 1, 1, bad, 0), code(t, 1, 1, api.Job{}, 0),
		append(code(t, 2), 255, 255, 255), {4, 0x81, 0}, append(code(t, 1, 4, 1, 1), 0x81, 0x20),
	} {
		if got, ok := Take(pack.Read(b)); ok || !reflect.DeepEqual(got, api.Fact{}) {
			t.Errorf("% x: %v", b, got)
		}
	}
	// A job that may not be leaves the reader behind it.
	r := pack.Read(append(code(t, 1, 1, bad, 0), factBytes(t, retain(5))...))
	Take(r)
	if got, ok := Take(r); !ok || got.Kind != api.FactRetain || got.At != 5 || r.Done() != api.OK {
		t.Error(got, ok)
	}
	if got, ok := Take(nil); ok || !reflect.DeepEqual(got, api.Fact{}) {
		t.Error("nil", got)
	}
	r = pack.Read(append([]byte{7}, factBytes(t, retain(5))...))
	r.Flag()
	if got, ok := Take(r); ok || !reflect.DeepEqual(got, api.Fact{}) {
		t.Error("failed", got)
	}
}

// draft is a book's bytes, of things that need not be.
type draft struct {
	catalog []byte
	occs    []any
}

func stepRow(s api.Step) row {
	return row{s.Run.Key.Host, s.Run.At, s.Run.Until, s.Run.Wave, s.State, s.Outcome, s.Reason}
}

func occRow(o api.Occurrence) row {
	steps := []any{}
	for _, s := range o.Steps {
		steps = append(steps, stepRow(s))
	}
	return row{o.Job, o.Version, o.Occ, o.Missed, steps}
}

func catalogBytes(t *testing.T, b *Book) []byte {
	t.Helper()
	return bytesOf(t, func(p *pack.Packer) { b.Catalog().Put(p) })
}

func draftBytes(t *testing.T, b *Book, occs []api.Occurrence) []byte {
	t.Helper()
	rows := []any{}
	for _, o := range occs {
		rows = append(rows, occRow(o))
	}
	return append(catalogBytes(t, b), code(t, rows)...)
}

// P22.4

func TestPack(t *testing.T) {
	if got := bookBytes(t, New()); !bytes.Equal(got, []byte{0, 0, 0, 0}) {
		t.Errorf("% x", got)
	}
	b := whole(t)
	if got, want := bookBytes(t, b), draftBytes(t, b, slices.Collect(b.All())); !bytes.Equal(got, want) {
		t.Errorf("% x, not % x", got, want)
	}
	few := New()
	mustApply(t, few, putJob(t, "a: * * * * *; deadline=60"), putHost(5), expand("a", 60), sent(key("a", 60, 5)), done(key("a", 60, 5), 2), miss("a", 120))
	j := []byte("\x01a\x09* * * * *\x00\x00\x00\xC8\x01\x00\x78\x02\x00")
	want := slices.Concat([]byte{2, 1}, j, []byte{2, 0, 1, 10, 2, 0},
		[]byte{2}, j, []byte{2, 120, 0, 1, 10, 120, 240, 1, 0, 6, 4, 0}, j, []byte{2, 240, 1, 1, 0})
	if got := bookBytes(t, few); !bytes.Equal(got, want) {
		t.Errorf("% x, not % x", got, want)
	}
	whole(t).Pack(nil)
}

func TestUnpack(t *testing.T) {
	for i, b := range []*Book{New(), some(t), whole(t)} {
		bytesWere := bookBytes(t, b)
		r := pack.Read(append(slices.Clone(bytesWere), 9))
		got := Unpack(r)
		mustBe(t, "unpacked", stateOf(got), stateOf(b))
		if r.Left() != 1 || r.Failed() {
			t.Error(i, r.Left())
		}
		if !bytes.Equal(bookBytes(t, got), bytesWere) {
			t.Error(i, "packed again")
		}
		for n := range bytesWere {
			r := pack.Read(bytesWere[:n])
			if Unpack(r) != nil || !r.Failed() {
				t.Error(i, "cut", n)
			}
		}
	}
	if Unpack(nil) != nil {
		t.Error("nil")
	}
	// What was unpacked goes on as the one that was packed.
	b := Unpack(pack.Read(bookBytes(t, whole(t))))
	mustApply(t, b, done(key("a", 60, 1), api.Bad), sent(key("a", 60, 4)), sent(key("b", 60, 2)), miss("c", 0), expand("b", 240))
	mustRefuse(t, "unpacked", b, api.ErrOrder, done(key("a", 60, 2), api.Bad))
	mustRefuse(t, "unpacked", b, api.ErrTwice, miss("b", 0))
}

// Occurrences of jobs that there are no more, with runs that say anything of their times, are a book's too.
func TestUnpackMay(t *testing.T) {
	b := some(t)
	mustApply(t, b, dropJob("a"), expand("b", 60))
	for _, change := range []func(o *api.Occurrence){
		func(o *api.Occurrence) {},
		func(o *api.Occurrence) { o.Job = jobOf(t, "other: 1 2 3 4 5; jitter=6"); o.Version = 1 },
		func(o *api.Occurrence) { o.Version = 4 },
		func(o *api.Occurrence) { o.Occ = first },
		func(o *api.Occurrence) { o.Occ = last - 59 },
		func(o *api.Occurrence) { o.Steps = nil },
		func(o *api.Occurrence) { o.Missed, o.Steps = true, nil },
		func(o *api.Occurrence) { o.Steps[0].Run.Key.Host = 65535 },
		func(o *api.Occurrence) { o.Steps[0].Run.Key.Host = 0 },
		func(o *api.Occurrence) {
			o.Steps[0].Run.At, o.Steps[0].Run.Until, o.Steps[0].Run.Wave = math.MaxInt, math.MinInt, -7
		},
		func(o *api.Occurrence) {
			two := o.Steps[0]
			two.Run.Key.Host = 1
			o.Steps = append(o.Steps, two)
		},
		func(o *api.Occurrence) { o.Steps[0].State = api.StepSent },
		func(o *api.Occurrence) { o.Steps[0].State, o.Steps[0].Outcome = api.StepDone, 1 },
		func(o *api.Occurrence) { o.Steps[0].State, o.Steps[0].Outcome = api.StepDone, 4 },
		func(o *api.Occurrence) { o.Steps[0].State, o.Steps[0].Reason = api.StepSkipped, 1 },
		func(o *api.Occurrence) { o.Steps[0].State, o.Steps[0].Reason = api.StepSkipped, 7 },
	} {
		o, _ := b.Get("b", 60)
		change(&o)
		for i := range o.Steps {
			run := &o.Steps[i].Run
			run.Key.Job, run.Key.Occ, run.Version = o.Job.Name, o.Occ, o.Version
		}
		got := Unpack(pack.Read(draftBytes(t, b, []api.Occurrence{o})))
		if got == nil || !slices.EqualFunc(slices.Collect(got.All()), []api.Occurrence{o}, sameOccurrence) {
			t.Error(o, got)
		}
	}
}

func sameOccurrence(a, b api.Occurrence) bool {
	return job.Same(a.Job, b.Job) && a.Version == b.Version && a.Occ == b.Occ && a.Missed == b.Missed && slices.Equal(a.Steps, b.Steps)
}

func TestUnpackMayNot(t *testing.T) {
	b := whole(t)
	for i, change := range []func(l []api.Occurrence) []api.Occurrence{
		func(l []api.Occurrence) []api.Occurrence { l[1].Job.Deadline = 59; return l },
		func(l []api.Occurrence) []api.Occurrence { l[1].Job = api.Job{}; return l },
		func(l []api.Occurrence) []api.Occurrence { l[1].Version = 0; return l },
		func(l []api.Occurrence) []api.Occurrence { l[1].Version = 4; return l },
		func(l []api.Occurrence) []api.Occurrence { l[1].Version = -1; return l },
		func(l []api.Occurrence) []api.Occurrence { l[0].Occ = -1; return l },
		func(l []api.Occurrence) []api.Occurrence { l[0].Occ = first - 60; return l },
		func(l []api.Occurrence) []api.Occurrence { l[len(l)-1].Occ = last + 1; return l },
		func(l []api.Occurrence) []api.Occurrence { l[len(l)-1].Occ = 181; return l },
		func(l []api.Occurrence) []api.Occurrence { l[0], l[1] = l[1], l[0]; return l },
		func(l []api.Occurrence) []api.Occurrence { l[1], l[2] = l[2], l[1]; return l },
		func(l []api.Occurrence) []api.Occurrence { return append(l, l[len(l)-1]) },
		func(l []api.Occurrence) []api.Occurrence { return slices.Insert(l, 1, l[1]) },
		func(l []api.Occurrence) []api.Occurrence { l[1].Missed = true; return l },
		func(l []api.Occurrence) []api.Occurrence { l[1].Steps[0].Run.Key.Host = -1; return l },
		func(l []api.Occurrence) []api.Occurrence { l[1].Steps[0].Run.Key.Host = 65536; return l },
		func(l []api.Occurrence) []api.Occurrence {
			l[1].Steps[0].Run.Key.Host = l[1].Steps[3].Run.Key.Host
			return l
		},
	} {
		l := slices.Collect(b.All())
		if i == 0 {
			mustBe(t, "unchanged", stateOf(Unpack(pack.Read(draftBytes(t, b, l)))), stateOf(b))
		}
		r := pack.Read(draftBytes(t, b, change(l)))
		if got := Unpack(r); got != nil || r.Failed() || r.Left() != 0 {
			t.Error(i, got, r.Failed(), r.Left())
		}
	}
	for _, s := range []api.Step{
		{}, {State: -1}, {State: 5}, {State: math.MaxInt}, {State: 5, Outcome: 1}, {State: 0, Reason: 1},
		{State: api.StepWaiting, Outcome: 1}, {State: api.StepSent, Outcome: 4}, {State: api.StepSkipped, Reason: 1, Outcome: 1}, {State: api.StepWaiting, Outcome: -1},
		{State: api.StepDone}, {State: api.StepDone, Outcome: 5}, {State: api.StepDone, Outcome: -1}, {State: api.StepDone, Outcome: 1, Reason: 1},
		{State: api.StepWaiting, Reason: 1}, {State: api.StepSent, Reason: 7}, {State: api.StepSkipped}, {State: api.StepSkipped, Reason: 8}, {State: api.StepSkipped, Reason: -1},
	} {
		l := slices.Collect(b.All())
		s.Run = l[2].Steps[0].Run
		l[2].Steps[0] = s
		if got := Unpack(pack.Read(draftBytes(t, b, l))); got != nil {
			t.Error(s, got)
		}
	}
	// A catalogue that is none, with occurrences behind it.
	bad := append(code(t, -1), bookBytes(t, New())[1:]...)
	r := pack.Read(append(bad, 9))
	if Unpack(r) != nil || r.Failed() || r.Left() != 1 {
		t.Error("no catalogue", r.Failed(), r.Left())
	}
}

func TestUnpackMany(t *testing.T) {
	b := New()
	mustApply(t, b, putJob(t, "a: * * * * *"))
	for i := range api.MaxOccs {
		mustApply(t, b, miss("a", 60*i))
	}
	mustBe(t, "as many as may be", stateOf(Unpack(pack.Read(bookBytes(t, b)))), stateOf(b))
	l := slices.Collect(b.All())
	one := l[0]
	one.Occ = 60 * 512
	r := pack.Read(draftBytes(t, b, append(l, one)))
	if Unpack(r) != nil || r.Failed() {
		t.Error("one more")
	}
	// A book may be too great for a packer.
	b = New()
	mustApply(t, b, putJob(t, "a: * * * * *"))
	for n := range 200 {
		mustApply(t, b, putHost(n))
	}
	for i := range 100 {
		mustApply(t, b, expand("a", 60*i))
	}
	p := pack.New()
	b.Pack(p)
	if got, e := p.Done(); len(got) != 0 || e != api.ErrLong {
		t.Error(len(got), e)
	}
}

// Spoiled bytes are a book's that packs to the same, or none.
func TestSpoiledBytes(t *testing.T) {
	good := bookBytes(t, whole(t))
	r := rand.New(rand.NewSource(1))
	books := 0
	for range 20000 {
		b := slices.Clone(good)
		for range 1 + r.Intn(2) {
			switch i := r.Intn(len(b)); r.Intn(3) {
			case 0:
				b[i] = byte(r.Intn(256))
			case 1:
				b[i] += byte(2*r.Intn(2)) - 1
			case 2:
				b = slices.Delete(b, i, i+1)
			}
		}
		reader := pack.Read(b)
		got := Unpack(reader)
		if got == nil {
			continue
		}
		books++
		read := b[:len(b)-reader.Left()]
		again := bookBytes(t, got)
		other := Unpack(pack.Read(again))
		if other == nil {
			t.Fatalf("% x is a book, % x is none", read, again)
		}
		mustBe(t, "again", stateOf(other), stateOf(got))
		if e := got.Apply(retain(last)); e != api.OK {
			t.Fatal(e)
		}
	}
	if books < 1000 {
		t.Error("too few books", books)
	}
	for range 20000 {
		b := make([]byte, r.Intn(12))
		for i := range b {
			b[i] = byte(r.Intn(20))
		}
		if f, ok := Take(pack.Read(b)); ok && !bytes.HasPrefix(b, factBytes(t, f)) && f.Edit.Kind != api.EditPut {
			t.Fatal(fmt.Sprintf("% x", b), f)
		}
	}
}

func TestUnpackKeepsNothing(t *testing.T) {
	b := bookBytes(t, whole(t))
	was := slices.Clone(b)
	got := Unpack(pack.Read(b))
	if !bytes.Equal(b, was) {
		t.Error("changed")
	}
	clear(b)
	mustBe(t, "kept", stateOf(got), stateOf(whole(t)))
}
