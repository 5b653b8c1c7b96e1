package store_test

import (
	"encoding/binary"
	"fmt"
	"hash/crc32"
	"math"
	"slices"
	"strings"
	"testing"

	"spareparts/api"
	"spareparts/store"
)

// A store of two disks, with all its bytes written out.
func TestH2PutByBytes(t *testing.T) {
	whole := []byte{2, 0, 1, 2, 1, 1, 'a', 1, 0, 0, 0, 0, 0, 1, 2, 1, 'a', 2, 1, 0, 0, 2, 'b', '2', 1, 0, 0, 0}
	block := func(shard byte) []byte {
		told := append([]byte{'S', 0, shard, 0, byte(len(whole)), 0, byte(len(whole))}, whole...)
		return binary.LittleEndian.AppendUint32(told, crc32.Checksum(told, crc32.MakeTable(crc32.Castagnoli)))
	}
	s := setup(1, 1, 2)
	l := []api.Do{put(258, opened("a")), put(1, added("a", 65536), opened("b2")), put(3, taken("a", 6))}
	want := api.Store{
		Setup: s,
		Disks: []api.Disk{
			{Blocks: []api.Held{{Segment: 0, Bytes: block(0)}}},
			// With one shard of data each spare one is that shard once more.
			{Blocks: []api.Held{{Segment: 0, Bytes: block(1)}}},
		},
		Segments: 1,
		Tail:     []api.Batch{{Command: 3, Events: []api.Event{taken("a", 6)}}},
		Seen:     []int{1, 3, 258},
		Snap:     viewOf(4, account("a", 65530, 3, true), account("b2", 0, 1, true)),
	}
	expectPlay(t, "two disks", s, l, want, []api.Answer{number(1), number(3), number(4)}, api.OK)
}

func wrongBatches() []struct {
	b   api.Batch
	err api.Errno
} {
	good := []api.Event{opened("x")}
	many := make([]api.Event, 11)
	for k := range many {
		many[k] = opened(stream(k))
	}
	return []struct {
		b   api.Batch
		err api.Errno
	}{
		{api.Batch{Command: 0, Events: good}, api.ErrRange},
		{api.Batch{Command: -1, Events: good}, api.ErrRange},
		{api.Batch{Command: 1000001, Events: good}, api.ErrRange},
		{api.Batch{Command: math.MinInt, Events: good}, api.ErrRange},
		{api.Batch{Command: math.MaxInt, Events: good}, api.ErrRange},
		{api.Batch{}, api.ErrRange},
		{api.Batch{Command: 0, Events: many}, api.ErrRange},
		{api.Batch{Command: 9}, api.ErrMany},
		{api.Batch{Command: 9, Events: many}, api.ErrMany},
		{api.Batch{Command: 9, Events: []api.Event{opened("")}}, api.ErrName},
		{api.Batch{Command: 9, Events: []api.Event{opened("X")}}, api.ErrName},
		{api.Batch{Command: 9, Events: []api.Event{opened("elevenchars")}}, api.ErrName},
		{api.Batch{Command: 9, Events: []api.Event{ev("x", 0, 0)}}, api.ErrKind},
		{api.Batch{Command: 9, Events: []api.Event{ev("x", 5, 0)}}, api.ErrKind},
		{api.Batch{Command: 9, Events: []api.Event{ev("x", api.Opened, 1)}}, api.ErrRange},
		{api.Batch{Command: 9, Events: []api.Event{opened("x"), added("x", -1)}}, api.ErrRange},
		{api.Batch{Command: 9, Events: []api.Event{opened("x"), added("x", 1000001)}}, api.ErrRange},
		{api.Batch{Command: 9, Events: []api.Event{opened("x"), ev("y", 7, 0), opened("")}}, api.ErrKind},
	}
}

// stores is beginnings: nothing, a tail alone, segments alone, and both; each with room for more.
func stores() []struct {
	name string
	s    api.Setup
	l    []api.Do
} {
	return []struct {
		name string
		s    api.Setup
		l    []api.Do
	}{
		{"nothing", setup(2, 1, 3), nil},
		{"a tail", setup(2, 1, 3), puts(2)},
		{"a segment", setup(2, 1, 3), puts(3)},
		{"segments and a tail", setup(2, 1, 3), puts(8)},
		{"one batch a segment", setup(1, 0, 1), puts(5)},
		{"ten batches a segment", setup(3, 2, 10), puts(29)},
		{"a disk that is gone", setup(2, 2, 2), append(append(puts(3), lose(1)), put(50, opened("m")), put(51, opened("n")))},
		{"blocks that are spoilt", setup(2, 2, 1), append(puts(4), spoil(0, 1, 3, 8), spoil(3, 2, 0, 1), swap(2))},
		{"too much is gone", setup(2, 1, 1), append(puts(4), lose(0), lose(2))},
	}
}

func TestH2PutOfAWrongBatch(t *testing.T) {
	for _, b := range stores() {
		for _, c := range wrongBatches() {
			d := api.Do{Kind: api.DoPut, Version: -1, Batch: c.b}
			expectNothingChanged(t, b.name, b.s, b.l, step{d, refused(c.err)})
			// What is wrong with the batch is told ahead of an old Version.
			d.Version, d.Stream = 77, "s1"
			expectNothingChanged(t, b.name, b.s, b.l, step{d, refused(c.err)})
		}
	}
}

// What is wrong with a batch is told even if its command was done.
func TestH2PutOfAWrongBatchOfACommandThatWasDone(t *testing.T) {
	s := setup(2, 1, 2)
	l := []api.Do{put(9, opened("a")), put(10, opened("b")), put(11, opened("c"))}
	for _, c := range wrongBatches() {
		for _, command := range []int{9, 10, 11} {
			b := c.b
			if b.Command == 9 {
				b.Command = command
			}
			expectNothingChanged(t, "a command that was done", s, l, step{api.Do{Kind: api.DoPut, Version: -1, Batch: b}, refused(c.err)})
		}
	}
}

// Said twice is done once.
func TestH2PutOfACommandThatWasDone(t *testing.T) {
	for _, s := range []api.Setup{setup(2, 1, 1), setup(2, 1, 2), setup(1, 2, 3), setup(8, 0, 10)} {
		first := []api.Do{put(5, opened("a"), added("a", 3)), put(2, opened("b")), put(8, closed("b"), added("a", 1)), put(1, opened("c"))}
		was, _ := expectTruth(t, "once", s, first)
		for _, command := range []int{5, 2, 8, 1} {
			for _, again := range []api.Do{
				put(command, opened("a"), added("a", 3)), // the same, which may not come any more
				put(command, added("a", 4)),              // something else, which may
				put(command, opened("z")),
				put(command, taken("a", 1000000)), // something that may not come
				putAt("a", 3, command, added("a", 1)),
				putAt("a", 77, command, added("a", 1)), // an old version
				putAt("No Name", 77, command, added("a", 1)),
				put(command, slices.Repeat([]api.Event{added("a", 1)}, 10)...),
			} {
				for times := 1; times <= 3; times++ {
					l := append(slices.Clone(first), slices.Repeat([]api.Do{again}, times)...)
					got, answers := expectTruth(t, "again", s, l)
					if !sameStore(got, was) {
						t.Errorf("%v: %v is said again, and the store is %v, not %v", s, again, got, was)
					}
					for _, a := range answers[len(first):] {
						if !sameAnswer(a, number(6)) {
							t.Errorf("%v: %v is said again, and %v comes", s, again, a)
						}
					}
				}
			}
		}
	}
}

func TestH2PutTwiceByHand(t *testing.T) {
	got := expectSteps(t, "twice", setup(2, 1, 2),
		step{put(7, opened("a")), number(1)},
		step{put(7, opened("a")), number(1)},
		step{put(7, opened("b")), number(1)},
		step{put(8, opened("b"), opened("c")), number(3)},
		// How many there are now, not how many there were when it was done.
		step{put(7, opened("a")), number(3)},
		step{put(9, added("a", 1)), number(4)},
		step{put(8, opened("b"), opened("c")), number(4)},
		step{put(9, added("a", 1)), number(4)},
		step{all(0), events(4, opened("a"), opened("b"), opened("c"), added("a", 1))},
	)
	if got.Segments != 1 || len(got.Tail) != 1 || !slices.Equal(got.Seen, []int{7, 8, 9}) {
		t.Errorf("the store is %v", got)
	}
}

// A command that was refused was not done.
func TestH2PutOfACommandThatWasRefused(t *testing.T) {
	for batches := 1; batches <= 4; batches++ {
		got := expectSteps(t, "refused, then done", setup(2, 1, batches),
			step{put(1, added("a", 1)), refused(api.ErrFit)},
			step{put(1, opened("A")), refused(api.ErrName)},
			step{putAt("a", 1, 1, opened("a")), refused(api.ErrOld)},
			step{put(1), refused(api.ErrMany)},
			step{put(1, opened("a")), number(1)},
			step{putAt("a", 0, 2, added("a", 1)), refused(api.ErrOld)},
			step{putAt("a", 1, 2, added("a", 1)), number(2)},
			step{putAt("a", 1, 2, added("a", 1)), number(2)},
			step{putAt("a", 1, 3, added("a", 1)), refused(api.ErrOld)},
			step{seen(), accounts(2, account("a", 1, 2, true))},
		)
		if !slices.Equal(got.Seen, []int{1, 2}) {
			t.Errorf("%v are seen", got.Seen)
		}
	}
}

func TestH2PutByVersion(t *testing.T) {
	begun := []api.Do{put(1, opened("a"), added("a", 2), opened("b")), put(2, closed("b"), added("a", 1)), put(3, opened("b"), opened("c"))}
	counts := map[string]int{"a": 3, "b": 3, "c": 1, "d": 0, "": 0, "A": 0, "aa": 0, "elevenchars": 0, "\xff": 0}
	for batches := 1; batches <= 4; batches++ {
		s := setup(2, 1, batches)
		for name, count := range counts {
			for _, version := range []int{math.MinInt, -2, -1, count} {
				// The stream that must have so many events need not be one of the batch.
				for _, e := range []api.Event{added("a", 5), opened("d"), closed("c")} {
					l := append(slices.Clone(begun), putAt(name, version, 4, e), putAt(name, version, 5, opened("later")))
					_, answers := expectTruth(t, "a version", s, l)
					if got := answers[3]; !sameAnswer(got, number(8)) {
						t.Errorf("%v: with version %d of %q %v comes", s, version, name, got)
					}
				}
			}
			for _, version := range []int{count - 1, count + 1, count + 256, math.MaxInt} {
				if version >= 0 {
					// Told ahead of events that may not come.
					expectNothingChanged(t, "another version", s, begun,
						step{putAt(name, version, 4, added("a", 5)), refused(api.ErrOld)},
						step{putAt(name, version, 4, opened("a")), refused(api.ErrOld)},
						step{putAt(name, version, 4, taken("q", 5)), refused(api.ErrOld)})
				}
			}
		}
	}
}

// The version is of what was put in, also where it can't be read any more.
func TestH2PutWhereTooMuchIsGone(t *testing.T) {
	expectSteps(t, "all disks gone", setup(2, 1, 1),
		step{put(1, opened("a")), number(1)},
		step{lose(0), done()},
		step{lose(1), done()},
		step{lose(2), done()},
		step{all(0), refused(api.ErrLost)},
		step{putAt("a", 0, 2, added("a", 4)), refused(api.ErrOld)},
		step{putAt("a", 1, 2, taken("a", 4)), refused(api.ErrFit)},
		step{putAt("a", 1, 2, added("a", 4)), number(2)},
		step{put(1, opened("a")), number(2)},
		step{putAt("a", 2, 3, taken("a", 4)), number(3)},
		step{all(0), refused(api.ErrLost)},
	)
}

// Of a batch in which one event may not come none comes.
func TestH2PutOfEventsThatMayNotCome(t *testing.T) {
	for _, b := range []struct {
		name string
		s    api.Setup
	}{{"a tail", setup(2, 1, 5)}, {"segments", setup(2, 1, 1)}, {"both", setup(2, 1, 2)}} {
		l := []api.Do{put(1, opened("a"), added("a", 7)), put(2, opened("b"), closed("b")), put(3, added("a", 1))}
		for _, events := range [][]api.Event{
			{opened("a")},
			{added("b", 1)},
			{taken("b", 0)},
			{closed("b")},
			{added("c", 1)},
			{taken("a", 9)},
			{taken("a", 8), taken("a", 1)},
			{opened("c"), opened("c")},
			{opened("c"), added("c", 5), added("a", 2), opened("b"), taken("b", 1)},
			{closed("a"), added("a", 1)},
			{added("a", 1), added("a", 1), added("a", 1), added("a", 1), added("a", 1), added("a", 1), added("a", 1), added("a", 1), added("a", 1), opened("a")},
		} {
			expectNothingChanged(t, b.name, b.s, l, step{put(4, events...), refused(api.ErrFit)})
			expectNothingChanged(t, b.name, b.s, l, step{putAt("a", 3, 4, events...), refused(api.ErrFit)})
		}
	}
}

// many is n events in batches of at most ten, by the commands from 1 on.
func many(n int) []api.Do {
	var l []api.Do
	for from := 0; from < n; from += 10 {
		var events []api.Event
		for k := from; k < min(n, from+10); k++ {
			events = append(events, ev("a", []int{api.Opened, api.Closed}[k%2], 0))
		}
		l = append(l, put(from/10+1, events...))
	}
	return l
}

func TestH2PutOfAsManyEventsAsMayBe(t *testing.T) {
	for _, s := range []api.Setup{setup(8, 4, 10), setup(3, 0, 4), setup(2, 1, 1), setup(5, 2, 7)} {
		full := many(150)
		got, answers := expectTruth(t, "as many as may be", s, full)
		if last := answers[14]; !sameAnswer(last, number(150)) || got.Snap.Upto != 150 {
			t.Errorf("%v: of the last of 150 events %v comes", s, last)
		}
		expectNothingChanged(t, "one more", s, full,
			step{put(16, opened("b")), refused(api.ErrMany)},
			step{put(16, opened("a")), refused(api.ErrMany)},
			// Too many is told of an event that may not come, too.
			step{put(16, closed("a")), refused(api.ErrMany)},
			step{put(16, opened("b"), opened("c"), opened("d")), refused(api.ErrMany)},
			step{putAt("a", 150, 16, opened("b")), refused(api.ErrMany)},
			step{putAt("a", 149, 16, opened("b")), refused(api.ErrOld)},
		)
		expectNothingChanged(t, "one more than one less", s, many(149),
			step{put(16, opened("b"), opened("c")), refused(api.ErrMany)},
			// The event that may not come is told if it comes ahead of the one that is too many.
			step{put(16, added("b", 1), opened("c")), refused(api.ErrFit)},
		)
		_, answers = expectTruth(t, "the last one alone", s, append(many(149), put(16, opened("b"), opened("c")), put(16, opened("b")), put(17, opened("c")), put(3, opened("c")), all(0), all(150), all(151), seen()))
		for k, want := range []api.Answer{refused(api.ErrMany), number(150), refused(api.ErrMany), number(150)} {
			if got := answers[15+k]; !sameAnswer(got, want) {
				t.Errorf("%v: number %d behind 149 events is %v, not %v", s, k, got, want)
			}
		}
		if a := answers[19]; a.Err != api.OK || a.N != 150 || len(a.Events) != 150 {
			t.Errorf("%v: %d of %d events are told", s, len(a.Events), a.N)
		}
	}
}

func TestH2PutThatFillsTailAndOneThatDoesNot(t *testing.T) {
	for batches := 1; batches <= 10; batches++ {
		for _, s := range []api.Setup{setup(1, 0, batches), setup(2, 1, batches), setup(8, 4, batches)} {
			for n := range min(3*batches+3, 38) {
				got, _ := expectTruth(t, "so many batches", s, puts(n))
				if got.Segments != n/batches || len(got.Tail) != n%batches {
					t.Errorf("%v: of %d batches come %d segments and a tail of %d", s, n, got.Segments, len(got.Tail))
				}
				for k, b := range got.Tail {
					if want := n - n%batches + k; b.Command != want+1 || !slices.Equal(b.Events, []api.Event{opened(stream(want))}) {
						t.Errorf("%v: batch %d of the tail of %d is %v", s, k, n, b)
					}
				}
				for number, disk := range got.Disks {
					if disk.Gone || len(disk.Blocks) != got.Segments {
						t.Errorf("%v: disk %d has %d blocks of %d segments", s, number, len(disk.Blocks), got.Segments)
					}
					for k, held := range disk.Blocks {
						if held.Segment != k || len(held.Bytes) < 3 || int(held.Bytes[1]) != k || int(held.Bytes[2]) != number {
							t.Errorf("%v: block %d of disk %d is %v", s, k, number, held)
						}
					}
				}
			}
		}
	}
}

func TestH2PutOfAsManySegmentsAsMayBe(t *testing.T) {
	for _, s := range []api.Setup{setup(1, 0, 1), setup(2, 1, 1), setup(8, 4, 1)} {
		got, answers := expectTruth(t, "as many segments as may be", s, puts(40))
		if !sameAnswer(answers[39], number(40)) || got.Segments != 40 || len(got.Disks[0].Blocks) != 40 {
			t.Errorf("%v: of 40 batches come %d segments", s, got.Segments)
		}
		expectNothingChanged(t, "one more", s, puts(40),
			step{put(41, opened("z")), refused(api.ErrRange)},
			step{put(1000000, added("s3", 4)), refused(api.ErrRange)},
			step{putAt("s3", 1, 41, added("s3", 4)), refused(api.ErrRange)},
			// These are told ahead of it.
			step{putAt("s3", 2, 41, added("s3", 4)), refused(api.ErrOld)},
			step{put(41, opened("s3")), refused(api.ErrFit)},
		)
		_, answers = expectTruth(t, "one more, and again", s, append(puts(40), put(41, opened("z")), put(41, opened("z")), put(7, opened("z")), all(0)))
		for k, want := range []api.Answer{refused(api.ErrRange), refused(api.ErrRange), number(40)} {
			if got := answers[40+k]; !sameAnswer(got, want) {
				t.Errorf("%v: number %d behind 40 segments is %v, not %v", s, k, got, want)
			}
		}
		if a := answers[43]; a.Err != api.OK || a.N != 40 {
			t.Errorf("%v: %d events are told of 40", s, a.N)
		}
	}
	// Tails go on where one batch does not fill them.
	got, _ := expectTruth(t, "two batches a segment", setup(1, 0, 2), puts(80))
	if got.Segments != 40 || len(got.Tail) != 0 {
		t.Errorf("of 80 batches come %d segments and a tail of %d", got.Segments, len(got.Tail))
	}
}

// long is a batch of n events, each of so many bytes.
func long(command, n, size int) api.Do {
	var l []api.Event
	for k := range n {
		name := fmt.Sprintf("%02d%03d", command, k)
		l = append(l, opened(name+strings.Repeat("x", size-5-len(name))))
	}
	return put(command, l...)
}

// A segment has room for as many bytes as shards of data do, and for none more.
func TestH2PutOfAsManyBytesAsMayBe(t *testing.T) {
	// Three batches of 10 + 10 + 6 events: 1 + 3*4 + 25*15 + 12 bytes are 400.
	begun := []api.Do{long(1, 10, 15), long(2, 10, 15)}
	last := func(size int) api.Do {
		d := long(3, 5, 15)
		d.Batch.Events = append(d.Batch.Events, long(4, 1, size).Batch.Events...)
		return d
	}
	s := setup(1, 1, 3)
	got, answers := expectTruth(t, "just enough room", s, append(slices.Clone(begun), last(12)))
	if !sameAnswer(answers[2], number(26)) || got.Segments != 1 || len(got.Disks[1].Blocks[0].Bytes) != 411 {
		t.Errorf("of 400 bytes comes %v", answers[2])
	}
	expectNothingChanged(t, "one byte too many", s, begun,
		step{last(13), refused(api.ErrMuch)},
		step{last(15), refused(api.ErrMuch)},
		step{long(3, 10, 15), refused(api.ErrMuch)},
	)
	_, answers = expectTruth(t, "too many bytes, then fewer", s, append(slices.Clone(begun), last(13), last(13), last(12), all(0), long(5, 10, 15), seen()))
	for k, want := range []api.Answer{refused(api.ErrMuch), refused(api.ErrMuch), number(26)} {
		if got := answers[2+k]; !sameAnswer(got, want) {
			t.Errorf("number %d behind two long batches is %v, not %v", k, got, want)
		}
	}
	// With more shards of data there is more room.
	expectTruth(t, "two shards", setup(2, 0, 3), append(slices.Clone(begun), long(3, 10, 15)))
	expectTruth(t, "two shards, too much", setup(2, 0, 7), []api.Do{long(1, 10, 15), long(2, 10, 15), long(3, 10, 15), long(4, 10, 15), long(5, 10, 15), long(6, 1, 15), long(7, 10, 15), long(7, 1, 15)})
}

// A tail for which there is no room stays a tail, and takes nothing more.
func TestH2PutBehindATailThatCantBeLaid(t *testing.T) {
	s := setup(1, 0, 10)
	var l []api.Do
	for k := range 9 {
		l = append(l, long(k+1, 9, 15))
	}
	expectNothingChanged(t, "ten long batches", s, l, step{long(10, 9, 15), refused(api.ErrMuch)})
	expectNothingChanged(t, "ten batches, the last one short", s, l, step{long(10, 1, 12), refused(api.ErrMuch)})
	// What was refused stays refused, and what was put in is told on.
	_, answers := expectTruth(t, "stuck", s, append(slices.Clone(l), long(10, 1, 12), long(11, 1, 12), put(3, opened("z")), all(80)))
	if a := answers[len(answers)-1]; a.Err != api.OK || a.N != 81 || len(a.Events) != 1 {
		t.Errorf("of a tail that can't be laid comes %v", a)
	}
}

func TestH2PutWithDisksThatAreGone(t *testing.T) {
	for _, s := range []api.Setup{setup(2, 1, 1), setup(1, 2, 2), setup(3, 2, 1), setup(4, 0, 1)} {
		for first := range s.Data + s.Spare {
			for second := range s.Data + s.Spare {
				l := slices.Concat(puts(2), []api.Do{lose(first), put(50, opened("m")), put(51, opened("n")), swap(first), lose(second), put(52, opened("o")), put(53, opened("p"))})
				got, answers := expectTruth(t, "disks that are gone", s, l)
				for _, k := range []int{3, 4, 7, 8} {
					if answers[k].Err != api.OK {
						t.Errorf("%v: %v is refused, with error %d", s, l[k], answers[k].Err)
					}
				}
				if disk := got.Disks[second]; !disk.Gone || len(disk.Blocks) != 0 {
					t.Errorf("%v: disk %d is %v", s, second, disk)
				}
				if disk := got.Disks[first]; first != second && (disk.Gone || len(disk.Blocks) != 2/s.Batches || disk.Blocks[0].Segment != 4/s.Batches) {
					t.Errorf("%v: disk %d is %v", s, first, disk)
				}
				// It has later segments, and the earlier ones come ahead of them.
				l = append(l, scrub(), swap(second), scrub(), health(), all(0))
				expectTruth(t, "scrubbed", s, l)
			}
		}
	}
	got := expectSteps(t, "all disks are gone", setup(1, 1, 1),
		step{lose(0), done()}, step{lose(1), done()}, step{put(1, opened("a")), number(1)}, step{seen(), refused(api.ErrLost)},
		step{swap(0), done()}, step{put(2, opened("b")), number(2)}, step{seen(), refused(api.ErrLost)}, step{health(), number(3)})
	if got.Segments != 2 || len(got.Disks[0].Blocks) != 1 || got.Disks[0].Blocks[0].Segment != 1 {
		t.Errorf("the store is %v", got)
	}
}

// permutations is all orders of l.
func permutations(l []int) [][]int {
	if len(l) == 0 {
		return [][]int{nil}
	}
	var out [][]int
	for k, first := range l {
		for _, rest := range permutations(slices.Delete(slices.Clone(l), k, k+1)) {
			out = append(out, append([]int{first}, rest...))
		}
	}
	return out
}

func TestH2SeenRises(t *testing.T) {
	for _, order := range permutations([]int{1, 2, 300, 65536, 1000000}) {
		var l []api.Do
		for k, command := range order {
			l = append(l, put(command, opened(stream(k))))
		}
		for _, again := range order {
			l = append(l, put(again, opened("again")))
		}
		got, _ := expectTruth(t, "commands in some order", setup(2, 1, 2), l)
		if !slices.Equal(got.Seen, []int{1, 2, 300, 65536, 1000000}) || got.Snap.Upto != 5 {
			t.Errorf("of commands %v %v are seen", order, got.Seen)
		}
		// The events stand in the order in which they came.
		if got.Segments != 2 || len(got.Tail) != 1 || got.Tail[0].Command != order[4] {
			t.Errorf("of commands %v the tail is %v", order, got.Tail)
		}
	}
}

func TestH2PutOfAllNumbersOfShards(t *testing.T) {
	for _, s := range allSetups() {
		l := append(puts(23), put(24, added("s3", 1000000), taken("s3", 999999)), put(25, closed("s5")))
		got, _ := expectTruth(t, "some batches", s, append(l, all(0), seen(), health()))
		if want := viewAfter(t, l); !sameView(got.Snap, want) {
			t.Errorf("%v: the view is %v, not %v", s, got.Snap, want)
		}
	}
}

// viewAfter is the view that a store of one disk has.
func viewAfter(t *testing.T, l []api.Do) api.View {
	t.Helper()
	got, _, err := store.Play(setup(1, 0, 10), l)
	if err != api.OK {
		t.Fatalf("Play tells error %d", err)
	}
	return got.Snap
}
