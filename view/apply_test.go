package view_test

import (
	"maps"
	"math"
	"slices"
	"strconv"
	"testing"

	"spareparts/api"
	"spareparts/event"
	"spareparts/view"
)

// applyOf is G2's words for Apply.
func applyOf(v api.View, e api.Event) (api.View, api.Errno) {
	accounts := map[string]api.Account{}
	for _, a := range v.Accounts {
		accounts[a.Stream] = a
	}
	a := accounts[e.Stream]
	for _, c := range []struct {
		err  api.Errno
		fits bool
	}{
		{wrongOf(v).Err, wrongOf(v).Err != api.OK},
		{event.Wrong(e), event.Wrong(e) != api.OK},
		{api.ErrMany, v.Upto == 150},
		{api.ErrFit, !mayOf(a, e)},
	} {
		if c.fits {
			return api.View{}, c.err
		}
	}
	sign := map[int]int{api.Added: 1, api.Taken: -1}[e.Kind]
	accounts[e.Stream] = api.Account{
		Stream: e.Stream,
		Sum:    a.Sum + sign*e.N,
		Count:  a.Count + 1,
		Open:   e.Kind != api.Closed,
	}
	next := api.View{Upto: v.Upto + 1}
	for _, stream := range slices.Sorted(maps.Keys(accounts)) {
		next.Accounts = append(next.Accounts, accounts[stream])
	}
	return next, api.OK
}

// foldOf is G2's words for Fold.
func foldOf(v api.View, l []api.Event) (api.View, api.Fault) {
	if wrong := wrongOf(v); wrong.Err != api.OK {
		return api.View{}, fault(wrong.Err, 0)
	}
	for at, e := range l {
		next, err := applyOf(v, e)
		if err != api.OK {
			return api.View{}, fault(err, at)
		}
		v = next
	}
	return v, api.Fault{}
}

func same(a, b api.View) bool {
	return a.Upto == b.Upto && slices.Equal(a.Accounts, b.Accounts)
}

// expectApply holds an answer of Apply against what must come: beside an error the view must be empty.
func expectApply(t *testing.T, name string, v api.View, e api.Event, want api.View, wantErr api.Errno) {
	t.Helper()
	got, err := view.Apply(v, e)
	if err != wantErr || !same(got, want) {
		t.Errorf("%s: Apply of %v, %v is %v, %d, not %v, %d", name, v, e, got, err, want, wantErr)
	}
}

func expectNotApplied(t *testing.T, name string, v api.View, e api.Event, wantErr api.Errno) {
	t.Helper()
	expectApply(t, name, v, e, api.View{}, wantErr)
}

// expectFold holds an answer of Fold against what must come.
func expectFold(t *testing.T, name string, v api.View, l []api.Event, want api.View, wantFault api.Fault) {
	t.Helper()
	got, f := view.Fold(v, l)
	if f != wantFault || !same(got, want) {
		t.Errorf("%s: Fold of %v and %d events is %v, %v, not %v, %v", name, v, len(l), got, f, want, wantFault)
	}
}

func expectNotFolded(t *testing.T, name string, v api.View, l []api.Event, wantFault api.Fault) {
	t.Helper()
	expectFold(t, name, v, l, api.View{}, wantFault)
}

// wrongViews are those with which one thing or another is wrong, at several accounts.
func wrongViews() []api.View {
	return []api.View{
		viewOf(-1), viewOf(api.MaxEvents + 1), viewOf(math.MinInt), viewOf(math.MaxInt),
		viewOf(1), viewOf(api.MaxEvents),
		viewOf(1, ac("A", 0, 1, true)),
		viewOf(1, ac("a", 0, 0, true)),
		viewOf(1, ac("a", 0, 2, true)),
		viewOf(1, ac("a", 1000001, 1, true)),
		viewOf(0, ac("a", 0, 1, true)),
		viewOf(2, ac("b", 0, 1, true), ac("a", 0, 1, true)),
		viewOf(2, ac("a", 0, 1, true), ac("a", 0, 1, true)),
		viewOf(3, ac("a", 0, 2, true), ac("b", 0, 2, true)),
		viewOf(5, ac("a", 0, 2, true), ac("b", 0, 2, true)),
		viewOf(9, ac("a", 0, 3, true), ac("b", 0, 3, true), ac("", 0, 3, true)),
		viewOf(9, ac("a", 0, 3, true), ac("b", 0, 3, true), ac("c", -3000001, 3, true)),
		viewOf(9, ac("a", 0, 3, true), ac("c", 0, 3, true), ac("b", 0, 3, true)),
		viewOf(150, ac("a", 0, 150, true), ac("b", 0, 1, true)),
	}
}

func wrongEvents() []api.Event {
	return []api.Event{
		ev("", api.Opened, 0), ev("A", api.Added, 1), ev("abcdefghijk", api.Closed, 0), ev("a b", api.Taken, 0),
		ev("a", 0, 0), ev("a", 5, 0), ev("a", -1, 0), ev("a", math.MaxInt, 0), ev("a", 258, 0),
		ev("a", api.Added, -1), ev("a", api.Added, 1000001), ev("a", api.Taken, -1), ev("a", api.Taken, 1000001),
		ev("a", api.Added, math.MaxInt), ev("a", api.Taken, math.MinInt),
		ev("a", api.Opened, 1), ev("a", api.Closed, 1), ev("a", api.Opened, -1), ev("a", api.Closed, -1),
	}
}

func TestG2WhatEachKindComesTo(t *testing.T) {
	open, shut := ac("m", 5, 3, true), ac("m", 5, 3, false)
	for _, c := range []struct {
		name string
		a    api.Account
		e    api.Event
		want api.Account
	}{
		{"opened", shut, ev("m", api.Opened, 0), ac("m", 5, 4, true)},
		{"closed", open, ev("m", api.Closed, 0), ac("m", 5, 4, false)},
		{"added", open, ev("m", api.Added, 7), ac("m", 12, 4, true)},
		{"nothing added", open, ev("m", api.Added, 0), ac("m", 5, 4, true)},
		{"the most added", open, ev("m", api.Added, 1000000), ac("m", 1000005, 4, true)},
		{"taken", open, ev("m", api.Taken, 2), ac("m", 3, 4, true)},
		{"nothing taken", open, ev("m", api.Taken, 0), ac("m", 5, 4, true)},
		{"all but one taken", open, ev("m", api.Taken, 4), ac("m", 1, 4, true)},
		{"all taken", open, ev("m", api.Taken, 5), ac("m", 0, 4, true)},
		{"added to the most", ac("m", 3000000, 3, true), ev("m", api.Added, 1000000), ac("m", 4000000, 4, true)},
		{"taken from the most", ac("m", 3000000, 3, true), ev("m", api.Taken, 1000000), ac("m", 2000000, 4, true)},
		{"added to the least", ac("m", -3000000, 3, true), ev("m", api.Added, 1000000), ac("m", -2000000, 4, true)},
		{"closed below 0", ac("m", -5, 3, true), ev("m", api.Closed, 0), ac("m", -5, 4, false)},
		{"opened below 0", ac("m", -5, 3, false), ev("m", api.Opened, 0), ac("m", -5, 4, true)},
	} {
		expectApply(t, c.name, viewOf(3, c.a), c.e, viewOf(4, c.want), api.OK)
		// Other accounts stay as they are.
		beside := []api.Account{ac("a", 1, 2, true), ac("ma", -4, 3, false), ac("z", 2, 1, true)}
		expectApply(t, c.name, viewOf(9, beside[0], c.a, beside[1], beside[2]), c.e,
			viewOf(10, beside[0], c.want, beside[1], beside[2]), api.OK)
	}
}

func TestG2AnEventThatMayNotCome(t *testing.T) {
	open, shut := ac("m", 5, 3, true), ac("m", 5, 3, false)
	for _, c := range []struct {
		name string
		a    api.Account
		e    api.Event
	}{
		{"opened twice", open, ev("m", api.Opened, 0)},
		{"closed twice", shut, ev("m", api.Closed, 0)},
		{"added to one that is closed", shut, ev("m", api.Added, 1)},
		{"nothing added to one that is closed", shut, ev("m", api.Added, 0)},
		{"taken from one that is closed", shut, ev("m", api.Taken, 1)},
		{"nothing taken from one that is closed", shut, ev("m", api.Taken, 0)},
		{"too much taken", open, ev("m", api.Taken, 6)},
		{"the most taken", open, ev("m", api.Taken, 1000000)},
		{"taken below 0", ac("m", -5, 3, true), ev("m", api.Taken, 0)},
		{"added to a stream that is new", open, ev("n", api.Added, 1)},
		{"taken from a stream that is new", open, ev("n", api.Taken, 0)},
		{"a new stream closed", open, ev("n", api.Closed, 0)},
		{"added to one whose name begins so", open, ev("mm", api.Added, 1)},
	} {
		expectNotApplied(t, c.name, viewOf(3, c.a), c.e, api.ErrFit)
		expectNotApplied(t, c.name, viewOf(9, ac("a", 9, 3, c.e.Kind != api.Opened), c.a, ac("z", 9, 3, true)), c.e, api.ErrFit)
	}
	for kind := api.Added; kind <= api.Closed; kind++ {
		expectNotApplied(t, "nothing there", viewOf(0), ev("a", kind, 0), api.ErrFit)
	}
}

func TestG2StreamsThatAreNew(t *testing.T) {
	b, d := ac("b", 4, 2, false), ac("d", 6, 1, true)
	fresh := func(stream string) api.Account { return ac(stream, 0, 1, true) }
	expectApply(t, "the first stream", viewOf(0), ev("a", api.Opened, 0), viewOf(1, fresh("a")), api.OK)
	for _, stream := range []string{"a", "0", "a9", "azzzzzzzzz"} {
		expectApply(t, "ahead of all", viewOf(3, b, d), ev(stream, api.Opened, 0), viewOf(4, fresh(stream), b, d), api.OK)
	}
	for _, stream := range []string{"c", "b0", "bb", "czzzzzzzzz"} {
		expectApply(t, "between two", viewOf(3, b, d), ev(stream, api.Opened, 0), viewOf(4, b, fresh(stream), d), api.OK)
	}
	for _, stream := range []string{"e", "d0", "dd", "zzzzzzzzzz"} {
		expectApply(t, "behind all", viewOf(3, b, d), ev(stream, api.Opened, 0), viewOf(4, b, d, fresh(stream)), api.OK)
	}
	// At each place of views of each length.
	for count := range 50 {
		v := goodView(count)
		for at := range count + 1 {
			stream := "s"
			if at > 0 {
				stream = v.Accounts[at-1].Stream + "x"
			}
			want := viewOf(v.Upto+1, slices.Insert(slices.Clone(v.Accounts), at, fresh(stream))...)
			expectApply(t, "a new stream", v, ev(stream, api.Opened, 0), want, api.OK)
		}
	}
}

// Sum and Count go on where they were.
func TestG2OneThatWasClosedIsOpenedAgain(t *testing.T) {
	l := []api.Event{
		ev("a", api.Opened, 0), ev("a", api.Added, 7), ev("a", api.Closed, 0),
		ev("a", api.Opened, 0), ev("a", api.Taken, 3), ev("a", api.Closed, 0), ev("a", api.Opened, 0),
	}
	want := []api.Account{
		ac("a", 0, 1, true), ac("a", 7, 2, true), ac("a", 7, 3, false),
		ac("a", 7, 4, true), ac("a", 4, 5, true), ac("a", 4, 6, false), ac("a", 4, 7, true),
	}
	v := api.View{}
	for k, e := range l {
		expectApply(t, "event by event", v, e, viewOf(k+1, want[k]), api.OK)
		expectFold(t, "at once", api.View{}, l[:k+1], viewOf(k+1, want[k]), api.Fault{})
		v, _ = view.Apply(v, e)
	}
}

// The document's seventh example.
func TestG2SevenAddedTwoTaken(t *testing.T) {
	l := []api.Event{ev("a", api.Opened, 0), ev("a", api.Added, 7), ev("a", api.Taken, 2)}
	v := viewOf(3, ac("a", 5, 3, true))
	expectFold(t, "7 added, 2 taken", api.View{}, l, v, api.Fault{})
	expectMay(t, view.Get(v, "a"), ev("a", api.Taken, 6), false)
	expectNotApplied(t, "6 taken", v, ev("a", api.Taken, 6), api.ErrFit)
	expectNotFolded(t, "6 taken", api.View{}, append(l, ev("a", api.Taken, 6)), fault(api.ErrFit, 3))
	expectApply(t, "5 taken", v, ev("a", api.Taken, 5), viewOf(4, ac("a", 0, 4, true)), api.OK)
}

// What is wrong with the view is told ahead of what is wrong with the event.
func TestG2ApplyToAViewThatIsWrong(t *testing.T) {
	for _, v := range wrongViews() {
		want := wrongOf(v).Err
		if want == api.OK {
			t.Fatalf("nothing is wrong with %v", v)
		}
		expectNotApplied(t, "an event that might come", v, ev("a", api.Added, 1), want)
		expectNotApplied(t, "a new stream", v, ev("q", api.Opened, 0), want)
		expectNotApplied(t, "an event that may not come", v, ev("q", api.Added, 1), want)
		for _, e := range wrongEvents() {
			expectNotApplied(t, "a wrong event", v, e, want)
		}
	}
}

// What is wrong with the event is told ahead of there being too many, and of its not being one that may come.
func TestG2ApplyAnEventThatIsWrong(t *testing.T) {
	for _, e := range wrongEvents() {
		want := event.Wrong(e)
		if want == api.OK {
			t.Fatalf("nothing is wrong with %v", e)
		}
		for _, v := range []api.View{
			viewOf(0),
			viewOf(2, ac("a", 5, 2, true)),
			viewOf(2, ac("a", 5, 2, false)),
			viewOf(149, ac("a", 5, 149, true)),
			viewOf(150, ac("a", 5, 150, true)),
			viewOf(150, ac("a", 5, 150, false)),
		} {
			expectNotApplied(t, "a wrong event", v, e, want)
		}
	}
}

func TestG2ApplyToAsManyEventsAsThereMayBe(t *testing.T) {
	for _, others := range []int{0, 1, 75, 149} {
		full := viewOf(150, ac("a", 5, 150-others, true))
		for k := range others {
			full.Accounts = append(full.Accounts, ac("s"+strconv.Itoa(100+k), 0, 1, true))
		}
		expectRight(t, "a full view", full)
		for _, e := range []api.Event{
			ev("a", api.Added, 1), ev("a", api.Taken, 5), ev("a", api.Closed, 0), ev("q", api.Opened, 0),
			// Those that may not come either: that there are too many is told first.
			ev("a", api.Opened, 0), ev("a", api.Taken, 6), ev("q", api.Closed, 0), ev("z", api.Added, 0),
		} {
			expectNotApplied(t, "one event too many", full, e, api.ErrMany)
			expectNotFolded(t, "one event too many", full, []api.Event{e}, fault(api.ErrMany, 0))
		}
		expectFold(t, "no event more", full, nil, full, api.Fault{})
	}
	nearly := viewOf(149, ac("a", 5, 149, true))
	expectApply(t, "the last one", nearly, ev("a", api.Taken, 5), viewOf(150, ac("a", 0, 150, true)), api.OK)
	expectApply(t, "a new stream at last", nearly, ev("b", api.Opened, 0), viewOf(150, ac("a", 5, 149, true), ac("b", 0, 1, true)), api.OK)
	expectNotApplied(t, "one that may not come", nearly, ev("a", api.Taken, 6), api.ErrFit)
	expectNotApplied(t, "one that may not come", nearly, ev("b", api.Closed, 0), api.ErrFit)
}

func TestG2FoldOfNoEvents(t *testing.T) {
	for count := range 51 {
		v := goodView(count)
		expectFold(t, "no events", v, nil, v, api.Fault{})
		expectFold(t, "no events", v, []api.Event{}, v, api.Fault{})
	}
}

// The error of a view stands at 0, not at the account's number, also if there are no events.
func TestG2FoldOfAViewThatIsWrong(t *testing.T) {
	for _, v := range wrongViews() {
		want := fault(wrongOf(v).Err, 0)
		expectNotFolded(t, "no events", v, nil, want)
		expectNotFolded(t, "good events", v, []api.Event{ev("q", api.Opened, 0), ev("q", api.Added, 1)}, want)
		expectNotFolded(t, "wrong events", v, wrongEvents(), want)
	}
}

// goodEvents are so many events that may come, of several streams, one after the other.
func goodEvents(count, streams int) []api.Event {
	l := []api.Event{}
	for k := range count {
		// 11 goes into none of the numbers asked for, so that all streams come, and not in their order.
		stream := "s" + strconv.Itoa(k*11%streams)
		turn := k / streams
		switch turn % 4 {
		case 0:
			l = append(l, ev(stream, api.Opened, 0))
		case 1:
			l = append(l, ev(stream, api.Added, 100*k+7))
		case 2:
			l = append(l, ev(stream, api.Taken, k%5))
		case 3:
			l = append(l, ev(stream, api.Closed, 0))
		}
	}
	return l
}

// streamByStream is what events that all may come come to, each stream for itself.
func streamByStream(l []api.Event) api.View {
	v := api.View{Upto: len(l)}
	streams := []string{}
	for _, e := range l {
		streams = append(streams, e.Stream)
	}
	slices.Sort(streams)
	for _, stream := range slices.Compact(streams) {
		a := api.Account{Stream: stream}
		for _, e := range l {
			if e.Stream == stream {
				a.Count++
				a.Sum += e.N - 2*e.N*(e.Kind/api.Taken)
				a.Open = e.Kind != api.Closed
			}
		}
		v.Accounts = append(v.Accounts, a)
	}
	return v
}

func TestG2FoldOfGoodEvents(t *testing.T) {
	for count := range api.MaxEvents + 1 {
		for _, streams := range []int{1, 2, 3, 10, 150} {
			l := goodEvents(count, streams)
			expectFold(t, "good events", api.View{}, l, streamByStream(l), api.Fault{})
		}
	}
	// The greatest Sum that can come.
	l := append([]api.Event{ev("a", api.Opened, 0)}, slices.Repeat([]api.Event{ev("a", api.Added, 1000000)}, 149)...)
	expectFold(t, "the most added", api.View{}, l, viewOf(150, ac("a", 149000000, 150, true)), api.Fault{})
}

func TestG2FoldOfAsManyEventsAsThereMayBe(t *testing.T) {
	for _, streams := range []int{1, 7, 200} {
		l := goodEvents(1000, streams)
		full, _ := foldOf(api.View{}, l[:150])
		expectFold(t, "as many as there may be", api.View{}, l[:150], full, api.Fault{})
		for _, count := range []int{151, 152, 300, 1000} {
			expectNotFolded(t, "too many", api.View{}, l[:count], fault(api.ErrMany, 150))
		}
		for _, begun := range []int{1, 74, 149, 150} {
			v, _ := foldOf(api.View{}, l[:begun])
			expectFold(t, "as many as there may be", v, l[begun:150], full, api.Fault{})
			expectNotFolded(t, "too many", v, l[begun:151], fault(api.ErrMany, 150-begun))
		}
		// An event that is wrong is told as that, one that may not come as one too many.
		expectNotFolded(t, "a wrong one behind", api.View{}, append(slices.Clone(l[:150]), ev("A", api.Added, 1)), fault(api.ErrName, 150))
		expectNotFolded(t, "one that may not come behind", api.View{}, append(slices.Clone(l[:150]), ev("zz", api.Added, 1)), fault(api.ErrMany, 150))
	}
}

// withEvent is the events with another one between them.
func withEvent(l []api.Event, at int, e api.Event) []api.Event {
	return slices.Insert(slices.Clone(l), at, e)
}

// The first event that is refused is told, at its number among the events, whatever comes behind it.
func TestG2FoldTellsTheFirstEventThatIsRefused(t *testing.T) {
	refused := append(wrongEvents(), ev("zz", api.Added, 1), ev("zz", api.Taken, 0), ev("zz", api.Closed, 0), ev("s0", api.Taken, 1000000))
	for _, count := range []int{0, 1, 2, 9, 60, 149} {
		l := goodEvents(count, 4)
		for _, at := range []int{0, count / 2, count} {
			for k, e := range refused {
				want := fault(event.Wrong(e), at)
				if want.Err == api.OK {
					want.Err = api.ErrFit
				}
				one := withEvent(l, at, e)
				expectNotFolded(t, "one refused", api.View{}, one, want)
				two := append(one, refused[(k+9)%len(refused)])
				expectNotFolded(t, "two refused", api.View{}, two, want)
				v := viewOf(1, ac("a", 0, 1, true))
				if count < 149 {
					expectNotFolded(t, "one refused, behind a view", v, one, want)
				}
			}
		}
	}
	// Whether one may come hangs on those ahead of it.
	l := []api.Event{ev("a", api.Opened, 0), ev("a", api.Added, 3), ev("a", api.Taken, 2), ev("a", api.Taken, 1), ev("a", api.Closed, 0)}
	expectFold(t, "in their order", api.View{}, l, viewOf(5, ac("a", 0, 5, false)), api.Fault{})
	for k := range l {
		without := slices.Delete(slices.Clone(l), k, k+1)
		want, f := foldOf(api.View{}, without)
		expectFold(t, "without one", api.View{}, without, want, f)
	}
	expectNotFolded(t, "without the first", api.View{}, l[1:], fault(api.ErrFit, 0))
	expectNotFolded(t, "more behind the last", api.View{}, append(l, l[1]), fault(api.ErrFit, 5))
}

// Events that come in two parts come to what all come to at once, wherever they are parted.
func TestG2PartByPart(t *testing.T) {
	for _, streams := range []int{1, 3, 40} {
		l := goodEvents(150, streams)
		all := streamByStream(l)
		bad := withEvent(l[:100], 50, ev("s0", 9, 0))
		for k := range l {
			first, f := view.Fold(api.View{}, l[:k])
			if f != (api.Fault{}) {
				t.Errorf("the first %d events tell fault %v", k, f)
			}
			expectFold(t, "the second part", first, l[k:], all, api.Fault{})
			if k <= 50 {
				expectNotFolded(t, "a second part with a wrong one", first, bad[k:], fault(api.ErrKind, 50-k))
			}
		}
		v := api.View{}
		for k, e := range l {
			expectApply(t, "one by one", v, e, streamByStream(l[:k+1]), api.OK)
			v, _ = view.Apply(v, e)
		}
	}
}
