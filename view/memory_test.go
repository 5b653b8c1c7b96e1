package view_test

import (
	"math"
	"slices"
	"strconv"
	"testing"

	"spareparts/api"
	"spareparts/view"
)

// roomy is the view with other accounts in the spare room behind its own, and a way to see all of them.
func roomy(v api.View, behind ...api.Account) (api.View, func() []api.Account) {
	whole := slices.Concat(v.Accounts, behind)
	v.Accounts = whole[:len(v.Accounts)]
	return v, func() []api.Account { return slices.Clone(whole) }
}

func copyOf(v api.View) api.View {
	v.Accounts = slices.Clone(v.Accounts)
	return v
}

func TestG1WhatIsHandedInIsOnlyRead(t *testing.T) {
	for _, v := range append(wrongViews(), goodView(0), goodView(1), goodView(7), goodView(50)) {
		want := wrongOf(v)
		v, look := roomy(v, ac("z", 1, 1, true), ac("a", 2, 2, false), ac("", 0, 0, true))
		was := look()
		expectWrong(t, "accounts with room", v, want)
		view.Get(v, "a")
		view.Get(v, "zz")
		if !slices.Equal(look(), was) {
			t.Errorf("the accounts were %v, and are %v", was, look())
		}
	}
}

func TestG2WhatIsHandedInIsOnlyRead(t *testing.T) {
	events := []api.Event{
		ev("b", api.Added, 3), ev("b", api.Taken, 2), ev("b", api.Closed, 0), ev("a", api.Opened, 0),
		ev("c", api.Opened, 0), ev("e", api.Opened, 0), ev("d", api.Opened, 0), ev("q", api.Added, 1), ev("A", 7, -1),
	}
	for _, v := range append(wrongViews(), viewOf(0), viewOf(3, ac("b", 5, 2, true), ac("d", 0, 1, false)), goodView(49)) {
		v, look := roomy(v, ac("z", 1, 1, true), ac("a", 2, 2, false), ac("", 0, 0, true))
		was := look()
		for _, e := range events {
			want, err := applyOf(v, e)
			expectApply(t, "accounts with room", v, e, want, err)
		}
		for from := range events {
			for to := from; to <= len(events); to++ {
				whole := slices.Clone(events)
				want, f := foldOf(v, whole[from:to])
				expectFold(t, "events with room", v, whole[from:to], want, f)
				if !slices.Equal(whole, events) {
					t.Errorf("the events were %v, and are %v", events, whole)
				}
			}
		}
		if !slices.Equal(look(), was) {
			t.Errorf("the accounts were %v, and are %v", was, look())
		}
	}
}

// What stands behind a list is none of it, even if it would make a right one of it.
func TestG1G2WhatStandsBehindIsNotLookedAt(t *testing.T) {
	v := viewOf(3, ac("a", 7, 2, true), ac("b", 1, 1, true))
	short := api.View{Upto: 3, Accounts: v.Accounts[:1]}
	expectWrong(t, "an account that stands behind", short, fault(api.ErrFit, 1))
	expectGet(t, short, "b", api.Account{Stream: "b"})
	short.Upto = 2
	expectRight(t, "an account that stands behind", short)
	expectNotApplied(t, "an account that stands behind", short, ev("b", api.Added, 1), api.ErrFit)
	expectApply(t, "an account that stands behind", short, ev("b", api.Opened, 0), viewOf(3, ac("a", 7, 2, true), ac("b", 0, 1, true)), api.OK)
	expectFold(t, "an account that stands behind", short, nil, viewOf(2, ac("a", 7, 2, true)), api.Fault{})
	none := api.View{Accounts: v.Accounts[:0]}
	expectRight(t, "accounts behind none", none)
	expectNotApplied(t, "accounts behind none", none, ev("a", api.Added, 1), api.ErrFit)

	l := []api.Event{ev("a", api.Opened, 0), ev("a", api.Added, 2), ev("A", 0, 0)}
	expectFold(t, "events behind none", api.View{}, l[:0], api.View{}, api.Fault{})
	expectFold(t, "events behind one", api.View{}, l[:1], viewOf(1, ac("a", 0, 1, true)), api.Fault{})
	expectFold(t, "a wrong one behind", api.View{}, l[:2], viewOf(2, ac("a", 2, 2, true)), api.Fault{})
}

// spoil writes over all that the caller of an answer may write over, the spare room too.
func spoil(v api.View) {
	whole := v.Accounts[:cap(v.Accounts)]
	for k := range whole {
		whole[k] = ac("spoilt", -9, -9, true)
	}
}

func TestG2WhatIsAnsweredIsNewMemory(t *testing.T) {
	for _, begun := range []int{0, 1, 2, 7, 40} {
		v, look := roomy(goodView(begun), ac("z", 1, 1, true), ac("zz", 2, 2, false))
		l := []api.Event{ev("sa", api.Opened, 0), ev("sb", api.Opened, 0), ev("sa", api.Added, 2), ev("a", api.Opened, 0)}
		was, events := look(), slices.Clone(l)
		answers := map[string]func() api.View{
			"Apply of a new stream ahead":  func() api.View { a, _ := view.Apply(v, l[3]); return a },
			"Apply of a new stream behind": func() api.View { a, _ := view.Apply(v, l[0]); return a },
			"Apply of one that is there":   func() api.View { a, _ := view.Apply(v, ev("s10", api.Added, 1)); return a },
			"Fold of no events":            func() api.View { a, _ := view.Fold(v, nil); return a },
			"Fold of one event":            func() api.View { a, _ := view.Fold(v, l[:1]); return a },
			"Fold of events":               func() api.View { a, _ := view.Fold(v, l); return a },
			"Apply that is refused":        func() api.View { a, _ := view.Apply(v, ev("zz", api.Added, 1)); return a },
			"Fold that is refused":         func() api.View { a, _ := view.Fold(v, append(l[:2:2], ev("", 0, 0))); return a },
		}
		for name, answer := range answers {
			first, second := answer(), answer()
			want := copyOf(first)
			spoil(first)
			if !same(second, want) {
				t.Errorf("%s: what is written into one answer is seen in another", name)
			}
			if !slices.Equal(look(), was) || !slices.Equal(l, events) {
				t.Errorf("%s: what is written into an answer is seen in an argument", name)
			}
			if !same(answer(), want) {
				t.Errorf("%s: what is written into an answer is seen in a later one", name)
			}
		}
	}
}

// A view that grew by one event has nothing in common with that which grew by another.
func TestG2TwoViewsOfOne(t *testing.T) {
	v, _ := view.Fold(api.View{}, goodEvents(20, 4))
	left, _ := view.Apply(v, ev("x", api.Opened, 0))
	right, _ := view.Apply(v, ev("y", api.Opened, 0))
	further, _ := view.Apply(left, ev("z", api.Opened, 0))
	other, _ := view.Apply(left, ev("x", api.Added, 5))
	for _, c := range []struct {
		name string
		v    api.View
		l    []api.Event
	}{
		{"left", left, []api.Event{ev("x", api.Opened, 0)}},
		{"right", right, []api.Event{ev("y", api.Opened, 0)}},
		{"further", further, []api.Event{ev("x", api.Opened, 0), ev("z", api.Opened, 0)}},
		{"other", other, []api.Event{ev("x", api.Opened, 0), ev("x", api.Added, 5)}},
	} {
		if want := streamByStream(append(goodEvents(20, 4), c.l...)); !same(c.v, want) {
			t.Errorf("%s is %v, not %v", c.name, c.v, want)
		}
	}
}

func TestG2NothingOfAnArgumentIsKept(t *testing.T) {
	v := goodView(5)
	l := goodEvents(12, 3)
	for k := range l {
		l[k].Stream = "x" + l[k].Stream
	}
	answers := func() []api.View {
		none, _ := view.Fold(v, nil)
		all, _ := view.Fold(v, l)
		one, _ := view.Apply(v, ev("a", api.Opened, 0))
		last, _ := view.Apply(v, ev("s10", api.Added, 1))
		return []api.View{none, all, one, last}
	}
	got, want := answers(), answers()
	for k := range want {
		want[k] = copyOf(want[k])
	}
	spoil(v)
	for k := range l {
		l[k] = ev("spoilt", -1, -1)
	}
	for k := range want {
		if !same(got[k], want[k]) {
			t.Errorf("answer %d changes with what was handed in", k)
		}
	}
}

func TestG1G2NilAndNoEntriesAreTheSame(t *testing.T) {
	some := goodView(2).Accounts
	for _, none := range [][]api.Account{nil, {}, make([]api.Account, 0, 9), some[:0]} {
		v := api.View{Accounts: none}
		expectRight(t, "no accounts", v)
		expectWrong(t, "no accounts, an event", api.View{Upto: 1, Accounts: none}, fault(api.ErrFit, 0))
		expectWrong(t, "no accounts, below 0", api.View{Upto: -1, Accounts: none}, fault(api.ErrRange, 0))
		expectGet(t, v, "s10", api.Account{Stream: "s10"})
		expectApply(t, "no accounts", v, ev("s10", api.Opened, 0), viewOf(1, ac("s10", 0, 1, true)), api.OK)
		expectNotApplied(t, "no accounts", v, ev("s10", api.Added, 1), api.ErrFit)
		for _, l := range [][]api.Event{nil, {}, make([]api.Event, 0, 9), goodEvents(5, 1)[:0]} {
			expectFold(t, "no accounts, no events", v, l, api.View{}, api.Fault{})
			expectFold(t, "no events", goodView(2), l, goodView(2), api.Fault{})
			expectNotFolded(t, "no accounts, no events", api.View{Upto: 1, Accounts: none}, l, fault(api.ErrFit, 0))
		}
	}
}

// chance tells numbers without a plain rule, the same ones for the same seed.
func chance(seed uint32) func(below int) int {
	return func(below int) int {
		seed = seed*1664525 + 1013904223
		return int(seed>>8) % below
	}
}

// someView is one with which, as often as not, something is wrong.
func someView(pick func(int) int) api.View {
	v := api.View{}
	for k := range pick(6) {
		if pick(2) == 0 {
			continue
		}
		count := 1 + pick(4)
		if pick(12) == 0 {
			count = 30 + pick(120)
		}
		sum := pick(12) - 2
		if pick(10) == 0 {
			sum = 1000000*count - pick(2)
		}
		v.Accounts = append(v.Accounts, ac("s"+strconv.Itoa(k), sum, count, pick(3) > 0))
		v.Upto += count
	}
	if len(v.Accounts) > 0 && pick(8) == 0 {
		// As many events as there may be, or a few less.
		more := max(0, 150-pick(4)-v.Upto)
		v.Accounts[0].Count += more
		v.Upto += more
	}
	for pick(3) == 0 {
		disturb(pick, &v)
	}
	return v
}

// disturb changes something, perhaps so that the view is still right.
func disturb(pick func(int) int, v *api.View) {
	if len(v.Accounts) == 0 || pick(6) == 0 {
		v.Upto = []int{-1, 0, v.Upto - 1, v.Upto + 1, 150, 151, math.MinInt, math.MaxInt}[pick(8)]
		return
	}
	at, other := pick(len(v.Accounts)), pick(len(v.Accounts))
	a := &v.Accounts[at]
	switch pick(6) {
	case 0:
		a.Stream = wrongNames()[pick(17)]
	case 1:
		a.Stream = "s" + strconv.Itoa(pick(6))
	case 2:
		a.Count = []int{-1, 0, a.Count - 1, a.Count + 1, v.Upto, 151, math.MinInt, math.MaxInt}[pick(8)]
	case 3:
		a.Sum = []int{1000000 * a.Count, 1000000*a.Count + 1, -1000000 * a.Count, -1000000*a.Count - 1, math.MinInt, math.MaxInt}[pick(6)]
	case 4:
		v.Accounts[at], v.Accounts[other] = v.Accounts[other], v.Accounts[at]
	case 5:
		v.Accounts = slices.Delete(v.Accounts, at, at+1)
	}
}

// someEvent is seldom one with which something is wrong.
func someEvent(pick func(int) int) api.Event {
	e := ev("s"+strconv.Itoa(pick(6)), 1+pick(4), 0)
	if e.Kind == api.Added || e.Kind == api.Taken {
		e.N = pick(8)
	}
	if pick(14) == 0 {
		e = wrongEvents()[pick(len(wrongEvents()))]
	}
	if pick(14) == 0 {
		e.N = []int{1000000, 999999, 1000001, -1, math.MinInt, math.MaxInt}[pick(6)]
	}
	return e
}

// Whatever comes in, each answer is what the words of G1 and G2 make of it.
func TestG1G2OfAllKindsOfViewsAndEvents(t *testing.T) {
	pick := chance(7)
	wrong, applied, folded := map[api.Errno]int{}, map[api.Errno]int{}, map[api.Errno]int{}
	for range 30000 {
		v := someView(pick)
		f := wrongOf(v)
		expectWrong(t, "some view", v, f)
		wrong[f.Err]++
		l := []api.Event{}
		for range pick(8) {
			e := someEvent(pick)
			want, err := applyOf(v, e)
			expectApply(t, "some event", v, e, want, err)
			applied[err]++
			// Most of those that are refused are left out, so that lists grow.
			if _, f := foldOf(v, append(l, e)); f.Err == api.OK || pick(5) == 0 {
				l = append(l, e)
			}
		}
		want, ff := foldOf(v, l)
		expectFold(t, "some events", v, l, want, ff)
		folded[ff.Err]++
		for _, e := range l {
			a := view.Get(v, e.Stream)
			expectMay(t, a, e, mayOf(a, e))
		}
	}
	for _, err := range []api.Errno{api.OK, api.ErrName, api.ErrRange, api.ErrForm, api.ErrFit} {
		if wrong[err] < 100 {
			t.Errorf("error %d came of Wrong only %d times", err, wrong[err])
		}
	}
	for _, err := range []api.Errno{api.OK, api.ErrName, api.ErrRange, api.ErrForm, api.ErrFit, api.ErrKind, api.ErrMany} {
		if applied[err] < 50 || folded[err] < 10 {
			t.Errorf("error %d came of Apply only %d times, of Fold %d times", err, applied[err], folded[err])
		}
	}
}

// Long lists end as soon as others.
func TestG1G2OfLongLists(t *testing.T) {
	long := viewOf(150)
	for k := range 200000 {
		long.Accounts = append(long.Accounts, ac("s"+strconv.Itoa(100000+k), 0, 1, true))
	}
	if got := view.Wrong(long); got != fault(api.ErrFit, 150) {
		t.Errorf("Wrong of a long view is %v", got)
	}
	if got := view.Get(long, "s299999"); got != long.Accounts[199999] {
		t.Errorf("Get of a long view is %v", got)
	}
	if got, err := view.Apply(long, ev("a", api.Opened, 0)); err != api.ErrFit || !same(got, api.View{}) {
		t.Errorf("Apply of a long view tells error %d", err)
	}
	l := slices.Repeat([]api.Event{ev("a", api.Opened, 0), ev("a", api.Closed, 0)}, 500000)
	if got, f := view.Fold(long, l); f != fault(api.ErrFit, 0) || !same(got, api.View{}) {
		t.Errorf("Fold of a long view tells fault %v", f)
	}
	if got, f := view.Fold(api.View{}, l); f != fault(api.ErrMany, 150) || !same(got, api.View{}) {
		t.Errorf("Fold of a long list tells fault %v", f)
	}
}
