package event_test

import (
	"math"
	"slices"
	"strings"
	"testing"

	"spareparts/api"
	"spareparts/event"
)

// namedOf is E1's words for Named, by the texts that a name may have and no ranges of bytes.
func namedOf(s string) bool {
	const may = "abcdefghijklmnopqrstuvwxyz" + "0123456789"
	for _, c := range []byte(s) {
		if strings.IndexByte(may, c) < 0 {
			return false
		}
	}
	return s != "" && len(s) <= 10
}

// wrongOf is E1's words for Wrong.
func wrongOf(e api.Event) api.Errno {
	kinds := []int{1, 2, 3, 4}
	still := e.Kind == 1 || e.Kind == 4
	switch {
	case !namedOf(e.Stream):
		return api.ErrName
	case !slices.Contains(kinds, e.Kind):
		return api.ErrKind
	case e.N < 0, e.N > 1000000, still && e.N != 0:
		return api.ErrRange
	}
	return api.OK
}

// wrongBatchOf is E1's words for WrongBatch.
func wrongBatchOf(b api.Batch) api.Fault {
	if b.Command <= 0 || b.Command > 1000000 {
		return api.Fault{Err: api.ErrRange}
	}
	if len(b.Events) == 0 || len(b.Events) > 10 {
		return api.Fault{Err: api.ErrMany}
	}
	at := slices.IndexFunc(b.Events, func(e api.Event) bool { return wrongOf(e) != api.OK })
	if at < 0 {
		return api.Fault{}
	}
	return api.Fault{Err: wrongOf(b.Events[at]), At: at}
}

func ev(stream string, kind, n int) api.Event {
	return api.Event{Stream: stream, Kind: kind, N: n}
}

func batch(command int, l ...api.Event) api.Batch {
	return api.Batch{Command: command, Events: l}
}

// goodEvents are so many events with which nothing is wrong, of all kinds, with names of all lengths.
func goodEvents(count, seed int) []api.Event {
	const letters = "abcdefghijklmnopqrstuvwxyz0123456789"
	l := []api.Event{}
	for k := range count {
		e := ev(letters[(seed+k)%26:][:(seed+k)%10+1], (seed+k)%4+1, 0)
		if e.Kind == api.Added || e.Kind == api.Taken {
			e.N = (seed*7919 + k*104729) % (api.MaxN + 1)
		}
		l = append(l, e)
	}
	return l
}

// with is the list with another event at a place.
func with(l []api.Event, at int, e api.Event) []api.Event {
	l = slices.Clone(l)
	l[at] = e
	return l
}

// One event for each thing that can be wrong with an event.
var (
	misnamed = ev("A", api.Added, 1)
	unkind   = ev("a", 9, 1)
	outside  = ev("a", api.Added, -1)
)

func expectNamed(t *testing.T, s string, want bool) {
	t.Helper()
	if got := event.Named(s); got != want {
		t.Errorf("Named of %q is %t, not %t", s, got, want)
	}
}

func expectWrong(t *testing.T, e api.Event, want api.Errno) {
	t.Helper()
	if got := event.Wrong(e); got != want {
		t.Errorf("Wrong of %v is %d, not %d", e, got, want)
	}
}

func expectWrongBatch(t *testing.T, name string, b api.Batch, want api.Fault) {
	t.Helper()
	if got := event.WrongBatch(b); got != want {
		t.Errorf("WrongBatch of %s is %v, not %v", name, got, want)
	}
}

func TestE1NamedOfChosenTexts(t *testing.T) {
	for _, c := range []struct {
		s    string
		want bool
	}{
		{"", false},
		{"a", true},
		{"z", true},
		{"0", true},
		{"9", true},
		{"a1", true},
		{"1a", true},
		{"abcdefghij", true},
		{"klmnopqrst", true},
		{"uvwxyz", true},
		{"0123456789", true},
		{"abcdefghijk", false},
		{"01234567890", false},
		{"A", false},
		{"Z", false},
		{"aA", false},
		{" ", false},
		{" a", false},
		{"a ", false},
		{"a b", false},
		{"a-b", false},
		{"a_b", false},
		{"a\n", false},
		{"\x00", false},
		{"a\x00", false},
		// Other letters and digits, of several bytes, and bytes that are no letters at all.
		{"ä", false},
		{"é1", false},
		{"ａ", false},
		{"١", false},
		{"\xff", false},
		{"a\x80", false},
	} {
		expectNamed(t, c.s, c.want)
	}
}

func TestE1NamedOfAllLengths(t *testing.T) {
	for length := range 300 {
		want := length >= 1 && length <= api.MaxName
		expectNamed(t, strings.Repeat("a", length), want)
		expectNamed(t, strings.Repeat("7", length), want)
		expectNamed(t, strings.Repeat("-", length), false)
	}
	// Ten letters of two bytes each are no name, nor are texts of which the length's low bits alone are right.
	expectNamed(t, strings.Repeat("ä", api.MaxName), false)
	expectNamed(t, strings.Repeat("a", 65537), false)
	expectNamed(t, strings.Repeat("a", 1<<20+1), false)
}

func TestE1NamedOfEachByteAtEachPlace(t *testing.T) {
	for length := 1; length <= api.MaxName+1; length++ {
		for at := range length {
			for c := range 256 {
				s := []byte("x1y2z3a4b5c")[:length]
				s[at] = byte(c)
				expectNamed(t, string(s), namedOf(string(s)))
			}
		}
	}
}

func TestE1NamedOfAllTextsOfTwoBytes(t *testing.T) {
	for a := range 256 {
		for b := range 256 {
			s := string([]byte{byte(a), byte(b)})
			expectNamed(t, s, namedOf(s))
		}
	}
}

func TestE1WrongOfTheEdges(t *testing.T) {
	for _, c := range []struct {
		e    api.Event
		want api.Errno
	}{
		{ev("a", api.Opened, 0), api.OK},
		{ev("a", api.Added, 0), api.OK},
		{ev("a", api.Taken, 0), api.OK},
		{ev("a", api.Closed, 0), api.OK},
		{ev("a", api.Opened-1, 0), api.ErrKind},
		{ev("a", api.Closed+1, 0), api.ErrKind},
		{ev("a", -1, 0), api.ErrKind},
		{ev("a", 257, 0), api.ErrKind},
		{ev("a", 1<<32+1, 0), api.ErrKind},
		{ev("a", math.MinInt, 0), api.ErrKind},
		{ev("a", math.MaxInt, 0), api.ErrKind},
		{ev("a", api.Added, 1), api.OK},
		{ev("a", api.Taken, 1), api.OK},
		{ev("a", api.Added, api.MaxN), api.OK},
		{ev("a", api.Taken, api.MaxN), api.OK},
		{ev("a", api.Added, api.MaxN+1), api.ErrRange},
		{ev("a", api.Taken, api.MaxN+1), api.ErrRange},
		{ev("a", api.Added, -1), api.ErrRange},
		{ev("a", api.Taken, -1), api.ErrRange},
		{ev("a", api.Added, math.MinInt), api.ErrRange},
		{ev("a", api.Taken, math.MaxInt), api.ErrRange},
		{ev("a", api.Opened, 1), api.ErrRange},
		{ev("a", api.Closed, 1), api.ErrRange},
		{ev("a", api.Opened, -1), api.ErrRange},
		{ev("a", api.Closed, -1), api.ErrRange},
		{ev("a", api.Opened, api.MaxN), api.ErrRange},
		{ev("a", api.Closed, api.MaxN), api.ErrRange},
		{ev("a", api.Opened, 1<<32), api.ErrRange},
		{ev("a", api.Closed, 1<<32), api.ErrRange},
		{ev("", api.Added, 5), api.ErrName},
		{ev("A", api.Added, 5), api.ErrName},
		{ev("abcdefghij", api.Added, 5), api.OK},
		{ev("abcdefghijk", api.Added, 5), api.ErrName},
		{api.Event{}, api.ErrName},
		// Where several fit, the first one is told.
		{ev("", 0, 0), api.ErrName},
		{ev("", 5, -1), api.ErrName},
		{ev("A", api.Opened, 1), api.ErrName},
		{ev("A", api.Added, api.MaxN+1), api.ErrName},
		{ev("a", 0, -1), api.ErrKind},
		{ev("a", 5, api.MaxN+1), api.ErrKind},
		{ev("a", 5, 1), api.ErrKind},
	} {
		expectWrong(t, c.e, c.want)
	}
}

// numbers are those around what Kind, N and Command may be, those of which
// the lowest bits alone would be right, and the ends of int.
var numbers = []int{
	math.MinInt, math.MinInt + 1, -1 << 32, -1 << 24, -1000001, -1000000, -256, -255, -4, -2, -1,
	0, 1, 2, 3, 4, 5, 6, 255, 256, 257, 258, 259, 260, 261, 65535, 65536, 65537,
	999999, 1000000, 1000001, 1000002, 1<<24 - 1, 1 << 24, 1<<24 + 1, 1<<24 + 2,
	1 << 32, 1<<32 + 1, 1<<32 + 2, math.MaxInt - 1, math.MaxInt,
}

var names = []string{"", "a", "z9", "abcdefghij", "abcdefghijk", "A", "a b", "ä", "\xff", strings.Repeat("q", 266)}

func TestE1WrongOfAllNamesKindsAndNumbers(t *testing.T) {
	for _, name := range names {
		for _, kind := range numbers {
			for _, n := range numbers {
				e := ev(name, kind, n)
				expectWrong(t, e, wrongOf(e))
			}
		}
	}
	for kind := -300; kind < 300; kind++ {
		for n := -3; n < 4; n++ {
			e := ev("a", kind, n)
			expectWrong(t, e, wrongOf(e))
		}
	}
}

func TestE1WrongBatchOfTheEdges(t *testing.T) {
	opened := ev("a", api.Opened, 0)
	some := func(count int) []api.Event { return goodEvents(count, 3) }
	for _, c := range []struct {
		name string
		b    api.Batch
		want api.Fault
	}{
		{"Command 1", batch(1, opened), api.Fault{}},
		{"Command MaxCommand", batch(api.MaxCommand, opened), api.Fault{}},
		{"Command 0", batch(0, opened), api.Fault{Err: api.ErrRange}},
		{"Command -1", batch(-1, opened), api.Fault{Err: api.ErrRange}},
		{"Command MaxCommand and one", batch(api.MaxCommand+1, opened), api.Fault{Err: api.ErrRange}},
		{"the least Command", batch(math.MinInt, opened), api.Fault{Err: api.ErrRange}},
		{"the greatest Command", batch(math.MaxInt, opened), api.Fault{Err: api.ErrRange}},
		{"a Command of more than three bytes", batch(1<<24+1, opened), api.Fault{Err: api.ErrRange}},
		{"no events", batch(1), api.Fault{Err: api.ErrMany}},
		{"MaxBatch events", batch(1, some(api.MaxBatch)...), api.Fault{}},
		{"one event more", batch(1, some(api.MaxBatch+1)...), api.Fault{Err: api.ErrMany}},
		{"257 events", batch(1, some(257)...), api.Fault{Err: api.ErrMany}},
		{"the zero batch", api.Batch{}, api.Fault{Err: api.ErrRange}},
		// Where several fit, the first one is told.
		{"Command 0, no events", batch(0), api.Fault{Err: api.ErrRange}},
		{"Command 0, too many events", batch(0, some(11)...), api.Fault{Err: api.ErrRange}},
		{"Command 0, a wrong event", batch(0, opened, misnamed), api.Fault{Err: api.ErrRange}},
		{"too many events, all wrong", batch(1, make([]api.Event, 11)...), api.Fault{Err: api.ErrMany}},
		{"too many events, the last wrong", batch(1, with(some(11), 10, unkind)...), api.Fault{Err: api.ErrMany}},
		{"an event with all wrong", batch(1, opened, ev("", 0, -1)), api.Fault{Err: api.ErrName, At: 1}},
		{"an event with kind and N wrong", batch(1, opened, ev("b", 0, -1)), api.Fault{Err: api.ErrKind, At: 1}},
	} {
		expectWrongBatch(t, c.name, c.b, c.want)
	}
}

func TestE1WrongBatchTellsTheFirstWrongEvent(t *testing.T) {
	wrongs := []api.Event{misnamed, unkind, outside}
	for count := 1; count <= api.MaxBatch; count++ {
		whole := goodEvents(count, count)
		expectWrongBatch(t, "good events", batch(count, whole...), api.Fault{})
		for at := range count {
			for k, e := range wrongs {
				one := with(whole, at, e)
				want := api.Fault{Err: wrongOf(e), At: at}
				expectWrongBatch(t, "one wrong event", batch(5, one...), want)
				// Whatever is wrong with a later one, the earlier one is told.
				for later := at + 1; later < count; later++ {
					two := with(one, later, wrongs[(k+later)%3])
					expectWrongBatch(t, "two wrong events", batch(5, two...), want)
				}
			}
		}
	}
}

func TestE1WrongBatchOfAllCommandsAndCounts(t *testing.T) {
	for _, command := range numbers {
		for count := range 14 {
			for _, l := range [][]api.Event{goodEvents(count, 1), make([]api.Event, count)} {
				b := batch(command, l...)
				expectWrongBatch(t, "a batch", b, wrongBatchOf(b))
			}
		}
	}
	for count := range 300 {
		b := batch(7, goodEvents(count, 2)...)
		expectWrongBatch(t, "a batch", b, wrongBatchOf(b))
	}
}

func TestE1WhatIsHandedInIsOnlyRead(t *testing.T) {
	for _, c := range []struct {
		l    []api.Event
		want api.Fault
	}{
		{goodEvents(3, 1), api.Fault{}},
		{goodEvents(api.MaxBatch, 1), api.Fault{}},
		{goodEvents(api.MaxBatch+1, 1), api.Fault{Err: api.ErrMany}},
		{nil, api.Fault{Err: api.ErrMany}},
		{with(goodEvents(4, 1), 2, outside), api.Fault{Err: api.ErrRange, At: 2}},
	} {
		for _, behind := range []api.Event{{}, misnamed, ev("b", api.Added, 1)} {
			whole := slices.Concat(c.l, slices.Repeat([]api.Event{behind}, 20))
			was := slices.Clone(whole)
			expectWrongBatch(t, "events with room", batch(1, whole[:len(c.l)]...), c.want)
			if !slices.Equal(whole, was) {
				t.Errorf("the events were %v, and are %v", was, whole)
			}
		}
	}
}

func TestE1NilAndNoEntriesAreTheSame(t *testing.T) {
	for _, none := range [][]api.Event{nil, {}, make([]api.Event, 0, 12), goodEvents(3, 1)[:0]} {
		for _, command := range []int{-1, 0, 1, 1000000, 1000001} {
			want := wrongBatchOf(api.Batch{Command: command})
			expectWrongBatch(t, "a batch of no events", batch(command, none...), want)
		}
	}
}
