package store_test

import (
	"bytes"
	"fmt"
	"slices"
	"testing"

	"spareparts/api"
	"spareparts/code"
	"spareparts/event"
	"spareparts/store"
	"spareparts/stripe"
	"spareparts/view"
)

func ev(stream string, kind, n int) api.Event { return api.Event{Stream: stream, Kind: kind, N: n} }

func opened(stream string) api.Event       { return ev(stream, api.Opened, 0) }
func closed(stream string) api.Event       { return ev(stream, api.Closed, 0) }
func added(stream string, n int) api.Event { return ev(stream, api.Added, n) }
func taken(stream string, n int) api.Event { return ev(stream, api.Taken, n) }

// put is a batch that comes however many events any stream has.
func put(command int, l ...api.Event) api.Do { return putAt("", -1, command, l...) }

func putAt(stream string, version, command int, l ...api.Event) api.Do {
	return api.Do{Kind: api.DoPut, Stream: stream, Version: version, Batch: api.Batch{Command: command, Events: l}}
}

func read(stream string) api.Do { return api.Do{Kind: api.DoRead, Stream: stream} }
func all(n int) api.Do          { return api.Do{Kind: api.DoAll, N: n} }
func lose(n int) api.Do         { return api.Do{Kind: api.DoLose, N: n} }
func swap(n int) api.Do         { return api.Do{Kind: api.DoSwap, N: n} }

func spoil(n, segment, at int, by byte) api.Do {
	return api.Do{Kind: api.DoSpoil, N: n, Segment: segment, At: at, By: by}
}

// Things that have a kind alone.
func seen() api.Do   { return api.Do{Kind: api.DoView} }
func scrub() api.Do  { return api.Do{Kind: api.DoScrub} }
func health() api.Do { return api.Do{Kind: api.DoHealth} }

// What comes of things.
func done() api.Answer                        { return api.Answer{} }
func number(n int) api.Answer                 { return api.Answer{N: n} }
func refused(err api.Errno) api.Answer        { return api.Answer{Err: err} }
func events(n int, l ...api.Event) api.Answer { return api.Answer{N: n, Events: l} }
func accounts(upto int, l ...api.Account) api.Answer {
	return api.Answer{N: upto, View: viewOf(upto, l...)}
}

func viewOf(upto int, l ...api.Account) api.View { return api.View{Upto: upto, Accounts: l} }

func account(stream string, sum, count int, open bool) api.Account {
	return api.Account{Stream: stream, Sum: sum, Count: count, Open: open}
}

func setup(data, spare, batches int) api.Setup {
	return api.Setup{Data: data, Spare: spare, Batches: batches}
}

// Two lists are the same if their entries are, so that none is the same as nil.
func sameView(a, b api.View) bool { return a.Upto == b.Upto && slices.Equal(a.Accounts, b.Accounts) }

func sameAnswer(a, b api.Answer) bool {
	return a.Err == b.Err && a.N == b.N && slices.Equal(a.Events, b.Events) && sameView(a.View, b.View)
}

func sameHeld(a, b api.Held) bool { return a.Segment == b.Segment && bytes.Equal(a.Bytes, b.Bytes) }

func sameDisk(a, b api.Disk) bool {
	return a.Gone == b.Gone && slices.EqualFunc(a.Blocks, b.Blocks, sameHeld)
}

func sameBatch(a, b api.Batch) bool {
	return a.Command == b.Command && slices.Equal(a.Events, b.Events)
}

func sameStore(a, b api.Store) bool {
	return a.Setup == b.Setup && slices.EqualFunc(a.Disks, b.Disks, sameDisk) && a.Segments == b.Segments &&
		slices.EqualFunc(a.Tail, b.Tail, sameBatch) && slices.Equal(a.Seen, b.Seen) && sameView(a.Snap, b.Snap)
}

// truth is a store that knows what was put in and laid, and tells that, not what its disks tell.
// It believes a block if it is the one that was laid, so it may not be given spoilt ones with right sums.
type truth struct {
	setup api.Setup
	done  []api.Batch
	laid  [][][]byte // by segments and disks
	gone  []bool
	disks []map[int][]byte
}

func newTruth(s api.Setup) *truth {
	w := &truth{setup: s, gone: make([]bool, s.Data+s.Spare)}
	for range w.gone {
		w.disks = append(w.disks, map[int][]byte{})
	}
	return w
}

func eventsOf(l []api.Batch) []api.Event {
	var all []api.Event
	for _, b := range l {
		all = append(all, b.Events...)
	}
	return all
}

func (w *truth) events() []api.Event { return eventsOf(w.done) }

// count is how many events a stream has, one by one.
func (w *truth) count(stream string) int {
	n := 0
	for _, e := range w.events() {
		if e.Stream == stream {
			n++
		}
	}
	return n
}

// bad is the numbers of the disks that have not what was laid.
func (w *truth) bad(segment int) []int {
	var l []int
	for n, disk := range w.disks {
		if told, there := disk[segment]; !there || !bytes.Equal(told, w.laid[segment][n]) {
			l = append(l, n)
		}
	}
	return l
}

// lost is whether so few are right that data can't be told.
func (w *truth) lost(segment int) bool { return len(w.bad(segment)) > w.setup.Spare }

func (w *truth) anyLost() bool {
	for segment := range w.laid {
		if w.lost(segment) {
			return true
		}
	}
	return false
}

// hold has a segment come to all disks that are there.
func (w *truth) hold(segment int) {
	for n := range w.disks {
		if !w.gone[n] {
			w.disks[n][segment] = bytes.Clone(w.laid[segment][n])
		}
	}
}

func (w *truth) put(d api.Do) api.Answer {
	if f := event.WrongBatch(d.Batch); f.Err != api.OK {
		return refused(f.Err)
	}
	now := len(w.events())
	for _, b := range w.done {
		if b.Command == d.Batch.Command {
			return number(now)
		}
	}
	if d.Version >= 0 && d.Version != w.count(d.Stream) {
		return refused(api.ErrOld)
	}
	if _, f := view.Fold(api.View{}, append(w.events(), d.Batch.Events...)); f.Err != api.OK {
		return refused(f.Err)
	}
	next := append(slices.Clone(w.done), api.Batch{Command: d.Batch.Command, Events: slices.Clone(d.Batch.Events)})
	if from := len(w.laid) * w.setup.Batches; len(next) == from+w.setup.Batches {
		told, _ := event.Bytes(next[from:])
		blocks, err := stripe.Lay(told, len(w.laid), w.setup.Data, w.setup.Spare)
		if err != api.OK {
			return refused(err)
		}
		w.laid = append(w.laid, blocks)
		w.hold(len(w.laid) - 1)
	}
	w.done = next
	return number(now + len(d.Batch.Events))
}

func (w *truth) tell(d api.Do) api.Answer {
	if w.anyLost() {
		return refused(api.ErrLost)
	}
	l := w.events()
	switch {
	case d.Kind == api.DoView:
		v, _ := view.Fold(api.View{}, l)
		return api.Answer{N: len(l), View: v}
	case d.Kind == api.DoAll && (d.N < 0 || d.N > len(l)):
		return refused(api.ErrRange)
	case d.Kind == api.DoAll:
		return events(len(l), l[d.N:]...)
	case !event.Named(d.Stream):
		return refused(api.ErrName)
	}
	var some []api.Event
	for _, e := range l {
		if e.Stream == d.Stream {
			some = append(some, e)
		}
	}
	return events(len(some), some...)
}

func (w *truth) disk(d api.Do) api.Answer {
	if d.N < 0 || d.N >= len(w.disks) {
		return refused(api.ErrNone)
	}
	if d.Kind == api.DoSpoil {
		told, there := w.disks[d.N][d.Segment]
		if !there {
			return refused(api.ErrNone)
		}
		if d.At < 0 || d.At >= len(told) {
			return refused(api.ErrRange)
		}
		told[d.At] ^= d.By
		return done()
	}
	if d.Kind == api.DoLose && w.gone[d.N] {
		return refused(api.ErrFit)
	}
	w.gone[d.N] = d.Kind == api.DoLose
	w.disks[d.N] = map[int][]byte{}
	return done()
}

func (w *truth) scrub() api.Answer {
	a := done()
	for segment := range w.laid {
		if w.lost(segment) {
			a.Err = api.ErrLost
			continue
		}
		for _, n := range w.bad(segment) {
			if !w.gone[n] {
				a.N++
			}
		}
		w.hold(segment)
	}
	return a
}

func (w *truth) health() api.Answer {
	a := done()
	for segment := range w.laid {
		a.N += len(w.bad(segment))
	}
	return a
}

func (w *truth) do(d api.Do) api.Answer {
	switch d.Kind {
	case 1:
		return w.put(d)
	case 2, 3, 4:
		return w.tell(d)
	case 5, 6, 7:
		return w.disk(d)
	case 8:
		return w.scrub()
	case 9:
		return w.health()
	}
	return refused(api.ErrKind)
}

// store is how it must look from outside.
func (w *truth) store() api.Store {
	s := api.Store{Setup: w.setup, Segments: len(w.laid), Tail: w.done[len(w.laid)*w.setup.Batches:]}
	for n, gone := range w.gone {
		disk := api.Disk{Gone: gone}
		for segment := range w.laid {
			if told, there := w.disks[n][segment]; there {
				disk.Blocks = append(disk.Blocks, api.Held{Segment: segment, Bytes: told})
			}
		}
		s.Disks = append(s.Disks, disk)
	}
	for _, b := range w.done {
		s.Seen = append(s.Seen, b.Command)
	}
	slices.Sort(s.Seen)
	s.Snap, _ = view.Fold(api.View{}, w.events())
	return s
}

// playOf is the words of chapter 8 for Play, where no spoilt block has a right sum.
func playOf(s api.Setup, l []api.Do) (api.Store, []api.Answer, api.Errno) {
	if err := wrongOf(s); err != api.OK {
		return api.Store{}, nil, err
	}
	if len(l) > 80 {
		return api.Store{}, nil, api.ErrMany
	}
	w := newTruth(s)
	var answers []api.Answer
	for _, d := range l {
		answers = append(answers, w.do(d))
	}
	return w.store(), answers, api.OK
}

// wrongOf is H1's words for Wrong.
func wrongOf(s api.Setup) api.Errno {
	if err := code.Wrong(s.Data, s.Spare); err != api.OK {
		return err
	}
	for batches := 1; batches <= 10; batches++ {
		if s.Batches == batches {
			return api.OK
		}
	}
	return api.ErrRange
}

// expectPlay holds an answer of Play against what must come, and tells the store.
func expectPlay(t *testing.T, name string, s api.Setup, l []api.Do, want api.Store, wantAnswers []api.Answer, wantErr api.Errno) api.Store {
	t.Helper()
	got, answers, err := store.Play(s, l)
	if err != wantErr || len(answers) != len(wantAnswers) {
		t.Fatalf("%s: Play of %v, %v tells error %d and %d answers, not error %d and %d answers", name, s, l, err, len(answers), wantErr, len(wantAnswers))
	}
	for k, a := range answers {
		if !sameAnswer(a, wantAnswers[k]) {
			t.Errorf("%s: Play of %v: of %v, number %d, comes %v, not %v", name, s, l[k], k, a, wantAnswers[k])
		}
	}
	if !sameStore(got, want) {
		t.Errorf("%s: Play of %v, %v has the store %v, not %v", name, s, l, got, want)
	}
	return got
}

// expectTruth holds an answer of Play against the truth, and tells both parts of it.
func expectTruth(t *testing.T, name string, s api.Setup, l []api.Do) (api.Store, []api.Answer) {
	t.Helper()
	want, answers, err := playOf(s, l)
	return expectPlay(t, name, s, l, want, answers, err), answers
}

// step is something that is done, and what must come of it.
type step struct {
	do   api.Do
	want api.Answer
}

func dos(l []step) []api.Do {
	var out []api.Do
	for _, x := range l {
		out = append(out, x.do)
	}
	return out
}

// expectSteps holds each answer against what must come, and all against the truth.
func expectSteps(t *testing.T, name string, s api.Setup, l ...step) api.Store {
	t.Helper()
	expectAnswers(t, name, s, l...)
	got, _ := expectTruth(t, name, s, dos(l))
	return got
}

// expectAnswers holds each answer against what must come.
func expectAnswers(t *testing.T, name string, s api.Setup, l ...step) api.Store {
	t.Helper()
	got, answers, err := store.Play(s, dos(l))
	if err != api.OK || len(answers) != len(l) {
		t.Fatalf("%s: Play of %v tells error %d and %d answers of %d", name, s, err, len(answers), len(l))
	}
	for k, x := range l {
		if !sameAnswer(answers[k], x.want) {
			t.Errorf("%s: Play of %v: of %v, number %d, comes %v, not %v", name, s, x.do, k, answers[k], x.want)
		}
	}
	return got
}

// expectNothingChanged has all of more refused behind l, one at a time: the store stays as it was, and goes on as it would.
func expectNothingChanged(t *testing.T, name string, s api.Setup, l []api.Do, more ...step) {
	t.Helper()
	was, _, err := store.Play(s, l)
	if err != api.OK {
		t.Fatalf("%s: Play of %v, %v tells error %d", name, s, l, err)
	}
	last := len(l)
	behind := []api.Do{health(), all(0), seen(), put(999, opened("later"))}
	grown, _, _ := store.Play(s, slices.Concat(l, behind))
	for _, x := range more {
		with := append(slices.Clone(l), x.do)
		got, answers, err := store.Play(s, with)
		if err != api.OK || len(answers) != last+1 {
			t.Fatalf("%s: Play of %v, %v tells error %d and %d answers", name, s, with, err, len(answers))
		}
		if x.want.Err == api.OK {
			t.Errorf("%s: %v is not to be refused", name, x.do)
		}
		if !sameAnswer(answers[last], x.want) {
			t.Errorf("%s: of %v comes %v, not %v", name, x.do, answers[last], x.want)
		}
		if !sameStore(got, was) {
			t.Errorf("%s: %v is refused, and the store is %v, not %v", name, x.do, got, was)
		}
		if got, _, _ := store.Play(s, append(with, behind...)); !sameStore(got, grown) {
			t.Errorf("%s: %v is refused, and the store goes on to be %v, not %v", name, x.do, got, grown)
		}
		expectTruth(t, name, s, append(with, behind...))
	}
}

// stream is the name of number k.
func stream(k int) string { return fmt.Sprintf("s%d", k) }

// puts is n batches of an event each, by the commands from 1 on.
func puts(n int) []api.Do {
	var l []api.Do
	for k := range n {
		l = append(l, put(k+1, opened(stream(k))))
	}
	return l
}

func allSetups() []api.Setup {
	var l []api.Setup
	for data := 1; data <= 8; data++ {
		for spare := 0; spare <= 4; spare++ {
			l = append(l, setup(data, spare, 1+(data+3*spare)%10))
		}
	}
	return l
}
