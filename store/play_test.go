package store_test

import (
	"math"
	"slices"
	"testing"

	"spareparts/api"
	"spareparts/store"
)

func expectWrong(t *testing.T, s api.Setup, want api.Errno) {
	t.Helper()
	if got := store.Wrong(s); got != want {
		t.Errorf("Wrong of %v is %d, not %d", s, got, want)
	}
}

func TestH1Wrong(t *testing.T) {
	for _, c := range []struct {
		s    api.Setup
		want api.Errno
	}{
		{setup(1, 0, 1), api.OK},
		{setup(8, 4, 10), api.OK},
		{setup(2, 1, 5), api.OK},
		{setup(2, 1, 0), api.ErrRange},
		{setup(2, 1, 1), api.OK},
		{setup(2, 1, 10), api.OK},
		{setup(2, 1, 11), api.ErrRange},
		{setup(2, 1, -1), api.ErrRange},
		{setup(2, 1, math.MinInt), api.ErrRange},
		{setup(2, 1, math.MaxInt), api.ErrRange},
		{setup(0, 1, 5), api.ErrMany},
		{setup(9, 1, 5), api.ErrMany},
		{setup(2, -1, 5), api.ErrMany},
		{setup(2, 5, 5), api.ErrMany},
		{setup(math.MinInt, 1, 5), api.ErrMany},
		{setup(2, math.MaxInt, 5), api.ErrMany},
		// What is told first.
		{setup(0, 1, 0), api.ErrMany},
		{setup(2, 5, 11), api.ErrMany},
		{api.Setup{}, api.ErrMany},
	} {
		expectWrong(t, c.s, c.want)
	}
}

func TestH1WrongOfAllSmallSetups(t *testing.T) {
	for data := -2; data <= 14; data++ {
		for spare := -2; spare <= 14; spare++ {
			for batches := -2; batches <= 21; batches++ {
				s := setup(data, spare, batches)
				expectWrong(t, s, wrongOf(s))
			}
		}
	}
}

func TestH1PlayOfAWrongSetup(t *testing.T) {
	for _, s := range []api.Setup{{}, setup(0, 1, 1), setup(9, 0, 1), setup(1, 5, 1), setup(1, -1, 1), setup(-1, 2, 1), setup(2, 1, 0), setup(2, 1, 11), setup(math.MaxInt, math.MaxInt, math.MaxInt), setup(math.MinInt, 1, math.MinInt)} {
		want := store.Wrong(s)
		if want == api.OK {
			t.Fatalf("nothing is wrong with %v", s)
		}
		for _, l := range [][]api.Do{nil, {}, puts(3), {{Kind: -1}}, make([]api.Do, 80), make([]api.Do, 81)} {
			expectPlay(t, "a wrong setup", s, l, api.Store{}, nil, want)
		}
	}
}

func TestH1PlayOfNothing(t *testing.T) {
	for _, s := range allSetups() {
		for _, l := range [][]api.Do{nil, {}} {
			want := api.Store{Setup: s, Disks: make([]api.Disk, s.Data+s.Spare)}
			expectPlay(t, "no things", s, l, want, nil, api.OK)
		}
	}
}

func TestH1PlayOfAsManyAsMayBe(t *testing.T) {
	s := setup(2, 1, 10)
	for _, n := range []int{1, 79, 80} {
		_, answers := expectTruth(t, "puts", s, puts(n))
		if len(answers) != n {
			t.Errorf("of %d things come %d answers", n, len(answers))
		}
		expectTruth(t, "no kinds", s, make([]api.Do, n))
		expectTruth(t, "health", s, slices.Repeat([]api.Do{health()}, n))
	}
	for _, n := range []int{81, 82, 160, 1000} {
		expectPlay(t, "too many", s, puts(n), api.Store{}, nil, api.ErrMany)
		expectPlay(t, "too many without a kind", s, make([]api.Do, n), api.Store{}, nil, api.ErrMany)
	}
}

// Fields that a kind has not mean nothing, and a kind that is none has none.
func TestH1PlayOfEachKind(t *testing.T) {
	begun := []step{{put(1, opened("a"), added("a", 7)), number(2)}, {put(2, opened("b")), number(3)}}
	wants := map[int]api.Answer{
		api.DoPut:    number(4),
		api.DoRead:   events(2, opened("a"), added("a", 7)),
		api.DoAll:    events(3, added("a", 7), opened("b")),
		api.DoView:   accounts(3, account("a", 7, 2, true), account("b", 0, 1, true)),
		api.DoLose:   done(),
		api.DoSwap:   done(),
		api.DoSpoil:  done(),
		api.DoScrub:  number(0),
		api.DoHealth: number(0),
	}
	for kind := -3; kind <= 13; kind++ {
		d := api.Do{Kind: kind, N: 1, Segment: 0, At: 2, By: 3, Stream: "a", Version: 2, Batch: api.Batch{Command: 3, Events: []api.Event{taken("a", 1)}}}
		want, there := wants[kind]
		if !there {
			want = refused(api.ErrKind)
		}
		expectSteps(t, "a kind", setup(2, 1, 2), append(begun, step{d, want})...)
	}
	for _, kind := range []int{math.MinInt, math.MinInt + 5, -256, 0, 10, 257, 1 << 32, 1<<32 + 1, math.MaxInt} {
		expectNothingChanged(t, "no kind", setup(2, 1, 2), dos(begun), step{api.Do{Kind: kind}, refused(api.ErrKind)})
	}
}

func TestH1FieldsThatAKindHasNotMeanNothing(t *testing.T) {
	before := append(puts(3), spoil(1, 0, 4, 9), lose(0))
	for _, c := range []struct {
		plain, other api.Do
	}{
		{putAt("s1", 1, 7, opened("q")), api.Do{Kind: api.DoPut, N: -4, Segment: 99, At: -9, By: 200, Stream: "s1", Version: 1, Batch: api.Batch{Command: 7, Events: []api.Event{opened("q")}}}},
		{read("s1"), api.Do{Kind: api.DoRead, N: -4, Segment: 99, At: -9, By: 200, Stream: "s1", Version: 5, Batch: api.Batch{Command: -7}}},
		{all(2), api.Do{Kind: api.DoAll, N: 2, Segment: -1, At: -9, By: 200, Stream: "No Name", Version: 5, Batch: api.Batch{Command: -7}}},
		{seen(), api.Do{Kind: api.DoView, N: -2, Segment: -1, At: -9, By: 200, Stream: "No Name", Version: 5, Batch: api.Batch{Command: -7}}},
		{lose(2), api.Do{Kind: api.DoLose, N: 2, Segment: -1, At: -9, By: 200, Stream: "No Name", Version: 5, Batch: api.Batch{Command: -7}}},
		{swap(1), api.Do{Kind: api.DoSwap, N: 1, Segment: -1, At: -9, By: 200, Stream: "No Name", Version: 5, Batch: api.Batch{Command: -7}}},
		{spoil(1, 0, 3, 5), api.Do{Kind: api.DoSpoil, N: 1, Segment: 0, At: 3, By: 5, Stream: "No Name", Version: 5, Batch: api.Batch{Command: -7}}},
		{scrub(), api.Do{Kind: api.DoScrub, N: -2, Segment: -1, At: -9, By: 200, Stream: "No Name", Version: 5, Batch: api.Batch{Command: -7}}},
		{health(), api.Do{Kind: api.DoHealth, N: -2, Segment: -1, At: -9, By: 200, Stream: "No Name", Version: 5, Batch: api.Batch{Command: -7}}},
	} {
		s := setup(2, 2, 1)
		want, answers, err := store.Play(s, append(slices.Clone(before), c.plain, health(), seen()))
		if answers[len(before)].Err != api.OK {
			t.Errorf("%v is refused", c.plain)
		}
		expectPlay(t, "more fields", s, append(slices.Clone(before), c.other, health(), seen()), want, answers, err)
	}
}

// What came of the first things does not hang on those behind them.
func TestH1OneThingAfterTheOther(t *testing.T) {
	l := []api.Do{
		put(1, opened("a")), put(2, added("a", 5)), health(), lose(0), put(3, opened("b")), all(0), spoil(1, 0, 3, 1), seen(), swap(0), scrub(),
		put(2, opened("z")), put(4, taken("a", 9)), put(5, taken("a", 5)), {Kind: 12}, health(), lose(1), lose(2), read("a"), put(6, closed("a")), scrub(), swap(1), health(),
	}
	for _, s := range []api.Setup{setup(1, 1, 1), setup(2, 1, 2), setup(2, 2, 1), setup(3, 0, 3), setup(1, 2, 10)} {
		_, whole := expectTruth(t, "all", s, l)
		for n := range l {
			_, part := expectTruth(t, "a part", s, l[:n])
			if !slices.EqualFunc(part, whole[:n], sameAnswer) {
				t.Errorf("%v: the first %d answers are others if more is done", s, n)
			}
		}
	}
}

// With one of three disks gone all is read.
func TestH1ToH4TheDocumentsExample(t *testing.T) {
	for gone := range 3 {
		got := expectSteps(t, "one of three is gone", setup(2, 1, 1),
			step{put(1, opened("a"), added("a", 7)), number(2)},
			step{put(2, taken("a", 2)), number(3)},
			step{lose(gone), done()},
			step{all(0), events(3, opened("a"), added("a", 7), taken("a", 2))},
			step{read("a"), events(3, opened("a"), added("a", 7), taken("a", 2))},
			step{seen(), accounts(3, account("a", 5, 3, true))},
		)
		for n, disk := range got.Disks {
			if disk.Gone != (n == gone) || disk.Gone && len(disk.Blocks) != 0 || !disk.Gone && len(disk.Blocks) != 2 {
				t.Errorf("disk %d of those of which %d is gone is %v", n, gone, disk)
			}
		}
	}
}
