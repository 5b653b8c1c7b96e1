package event_test

import (
	"bytes"
	"slices"
	"strings"
	"testing"

	"spareparts/api"
	"spareparts/event"
)

// mixed is bytes without a plain rule, the same ones for the same seed.
func mixed(length int, seed uint32) []byte {
	b := make([]byte, length)
	for k := range b {
		seed = seed*1664525 + 1013904223
		b[k] = byte(seed >> 24)
	}
	return b
}

// three is a number by three bytes, the high ones first.
func three(n int) []byte {
	return []byte{byte(n / 65536), byte(n / 256 % 256), byte(n % 256)}
}

// bytesOf is E2's words for the bytes of batches, whatever is wrong with them.
func bytesOf(l []api.Batch) []byte {
	told := []byte{byte(len(l))}
	for _, b := range l {
		told = append(told, three(b.Command)...)
		told = append(told, byte(len(b.Events)))
		for _, e := range b.Events {
			told = append(told, byte(len(e.Stream)))
			told = append(told, e.Stream...)
			told = append(told, byte(e.Kind))
			told = append(told, three(e.N)...)
		}
	}
	return told
}

// faultOf is E2's words for what Bytes tells.
func faultOf(l []api.Batch) api.Fault {
	if len(l) > 150 {
		return api.Fault{Err: api.ErrMany}
	}
	at := slices.IndexFunc(l, func(b api.Batch) bool { return wrongBatchOf(b).Err != api.OK })
	if at < 0 {
		return api.Fault{}
	}
	return api.Fault{Err: wrongBatchOf(l[at]).Err, At: at}
}

// slowRead goes through b place by place, and whether b ends just where the batches do:
// reading behind the end of b panics, and so is seen.
func slowRead(b []byte) (l []api.Batch, whole bool) {
	defer func() {
		if recover() != nil {
			l, whole = nil, false
		}
	}()
	at := 0
	one := func() int {
		at++
		return int(b[at-1])
	}
	many := func() int {
		high := one() * 65536
		middle := one() * 256
		return high + middle + one()
	}
	for range one() {
		read := api.Batch{Command: many()}
		for range one() {
			e := api.Event{}
			for range one() {
				e.Stream += string([]byte{byte(one())})
			}
			e.Kind = one()
			e.N = many()
			read.Events = append(read.Events, e)
		}
		l = append(l, read)
	}
	return l, at == len(b)
}

// slowParse is E2's words for Parse.
func slowParse(b []byte) ([]api.Batch, api.Errno) {
	l, whole := slowRead(b)
	if !whole {
		return nil, api.ErrForm
	}
	if fault := faultOf(l); fault.Err != api.OK {
		return nil, fault.Err
	}
	return l, api.OK
}

func same(a, b []api.Batch) bool {
	return slices.EqualFunc(a, b, func(x, y api.Batch) bool {
		return x.Command == y.Command && slices.Equal(x.Events, y.Events)
	})
}

// copyOf is the batches in other memory.
func copyOf(l []api.Batch) []api.Batch {
	l = slices.Clone(l)
	for k := range l {
		l[k].Events = slices.Clone(l[k].Events)
	}
	return l
}

// expectBytes holds an answer of Bytes against what must come: beside a fault no bytes may be told.
func expectBytes(t *testing.T, name string, l []api.Batch, want []byte, wantFault api.Fault) {
	t.Helper()
	got, fault := event.Bytes(l)
	if fault != wantFault {
		t.Errorf("Bytes of %s tells fault %v, not %v", name, fault, wantFault)
	}
	if !bytes.Equal(got, want) {
		t.Errorf("Bytes of %s is %v, not %v", name, got, want)
	}
}

// expectParse holds an answer of Parse against what must come.
func expectParse(t *testing.T, name string, b []byte, want []api.Batch, wantErr api.Errno) {
	t.Helper()
	got, err := event.Parse(b)
	if err != wantErr {
		t.Errorf("Parse of %s tells error %d, not %d", name, err, wantErr)
	}
	if !same(got, want) {
		t.Errorf("Parse of %s is %v, not %v", name, got, want)
	}
}

// expectNone is that Parse tells the error, and no batches.
func expectNone(t *testing.T, name string, b []byte, wantErr api.Errno) {
	t.Helper()
	expectParse(t, name, b, nil, wantErr)
}

// expectBoth is that the batches are written, and read again.
func expectBoth(t *testing.T, name string, l []api.Batch) {
	t.Helper()
	expectBytes(t, name, l, bytesOf(l), api.Fault{})
	expectParse(t, name, bytesOf(l), l, api.OK)
}

// goodBatches are so many batches with which nothing is wrong, of all numbers of events.
func goodBatches(count, seed int) []api.Batch {
	l := []api.Batch{}
	for k := range count {
		command := (seed*15485863+k*32452843)%api.MaxCommand + 1
		l = append(l, batch(command, goodEvents((seed+k)%api.MaxBatch+1, seed+k)...))
	}
	return l
}

// withBatch is the list with another batch at a place.
func withBatch(l []api.Batch, at int, b api.Batch) []api.Batch {
	l = slices.Clone(l)
	l[at] = b
	return l
}

// wrongBatches are those with which one thing is wrong, and each is so that bytes can tell it.
func wrongBatches() []api.Batch {
	good := ev("a", api.Opened, 0)
	return []api.Batch{
		batch(0, good),
		batch(api.MaxCommand+1, good),
		batch(1<<24-1, good),
		batch(1),
		batch(1, goodEvents(api.MaxBatch+1, 4)...),
		batch(1, goodEvents(255, 4)...),
		batch(1, ev("", api.Opened, 0)),
		batch(1, ev("abcdefghijk", api.Added, 1)),
		batch(1, ev(strings.Repeat("b", 255), api.Added, 1)),
		batch(1, good, misnamed),
		batch(1, good, ev("\xff", api.Added, 1), good),
		batch(1, ev("a", 0, 0)),
		batch(1, good, ev("a", 5, 0)),
		batch(1, good, ev("a", 255, 0)),
		batch(1, ev("a", api.Added, api.MaxN+1)),
		batch(1, ev("a", api.Taken, 1<<24-1)),
		batch(1, good, good, ev("a", api.Opened, 1)),
		batch(1, good, ev("a", api.Closed, 65536), good),
	}
}

func TestE2ChosenBatches(t *testing.T) {
	for _, c := range []struct {
		name string
		l    []api.Batch
		told []byte
	}{
		{"no batches", nil, []byte{0}},
		{
			"an event",
			[]api.Batch{batch(1, ev("a", api.Opened, 0))},
			[]byte{1, 0, 0, 1, 1, 1, 'a', 1, 0, 0, 0},
		},
		{
			"the greatest numbers",
			[]api.Batch{batch(1000000, ev("z9", api.Taken, 1000000))},
			[]byte{1, 15, 66, 64, 1, 2, 'z', '9', 3, 15, 66, 64},
		},
		{
			"numbers of three bytes",
			[]api.Batch{batch(0x0a0b0c, ev("q", api.Added, 0x0d0e0f))},
			[]byte{1, 0x0a, 0x0b, 0x0c, 1, 1, 'q', 2, 0x0d, 0x0e, 0x0f},
		},
		{
			"two batches",
			[]api.Batch{
				batch(258, ev("abc", api.Added, 7), ev("0", api.Closed, 0)),
				batch(2, ev("abcdefghij", api.Taken, 65536)),
			},
			[]byte{
				2,
				0, 1, 2, 2,
				3, 'a', 'b', 'c', 2, 0, 0, 7,
				1, '0', 4, 0, 0, 0,
				0, 0, 2, 1,
				10, 'a', 'b', 'c', 'd', 'e', 'f', 'g', 'h', 'i', 'j', 3, 1, 0, 0,
			},
		},
		{
			// Whether commands rise or come twice is not asked here.
			"one batch twice",
			[]api.Batch{batch(9, ev("a", api.Added, 1)), batch(9, ev("a", api.Added, 1))},
			[]byte{2, 0, 0, 9, 1, 1, 'a', 2, 0, 0, 1, 0, 0, 9, 1, 1, 'a', 2, 0, 0, 1},
		},
	} {
		expectBytes(t, c.name, c.l, c.told, api.Fault{})
		expectParse(t, c.name, c.told, c.l, api.OK)
	}
}

// The document's fifth example.
func TestE2ABatchOfOneEventHasElevenBytes(t *testing.T) {
	got, fault := event.Bytes([]api.Batch{batch(77, ev("k", api.Added, 12))})
	if len(got) != 11 || fault != (api.Fault{}) {
		t.Errorf("the batch has %d bytes, and tells fault %v", len(got), fault)
	}
}

func TestE2WhatIsWrittenIsRead(t *testing.T) {
	for count := range api.MaxEvents + 1 {
		expectBoth(t, "good batches", goodBatches(count, count))
	}
	for count := 1; count <= api.MaxBatch; count++ {
		for seed := range 40 {
			expectBoth(t, "a batch", []api.Batch{batch(seed+1, goodEvents(count, seed)...)})
		}
	}
}

func TestE2TheMostThatCanBeWritten(t *testing.T) {
	full := batch(api.MaxCommand, slices.Repeat([]api.Event{ev("abcdefghij", api.Added, api.MaxN)}, api.MaxBatch)...)
	l := slices.Repeat([]api.Batch{full}, api.MaxEvents)
	expectBoth(t, "the most", l)
	if got, _ := event.Bytes(l); len(got) != 1+150*(4+10*15) {
		t.Errorf("the most has %d bytes", len(got))
	}
}

// Low numbers, those around where a further byte is needed, those with noughts behind, and some of all others.
func TestE2NumbersOfThreeBytes(t *testing.T) {
	check := func(n int) {
		t.Helper()
		if n >= 1 && n <= api.MaxCommand {
			expectBoth(t, "such a Command", []api.Batch{batch(n, ev("a", api.Opened, 0))})
		}
		if n <= api.MaxN {
			expectBoth(t, "such an N", []api.Batch{batch(1, ev("a", api.Added, n), ev("b", api.Taken, n))})
		}
	}
	for n := range 700 {
		check(n)
		check(65536 - 350 + n)
		check(n * 256)
		check(n * 65536)
		check(api.MaxN - n)
	}
	for n := 0; n <= api.MaxN; n += 997 {
		check(n)
	}
}

func TestE2EachLetterOfAName(t *testing.T) {
	for length := 1; length <= api.MaxName; length++ {
		for _, c := range "abcdefghijklmnopqrstuvwxyz0123456789" {
			name := strings.Repeat(string(c), length)
			expectBoth(t, "such a name", []api.Batch{batch(1, ev(name, api.Closed, 0))})
		}
	}
}

func TestE2BytesOfTooManyBatches(t *testing.T) {
	for _, count := range []int{151, 152, 200, 255, 256, 257, 65536} {
		many := api.Fault{Err: api.ErrMany}
		expectBytes(t, "too many good batches", slices.Repeat(goodBatches(1, 3), count), nil, many)
		// Where both fit, that there are too many is told.
		expectBytes(t, "too many wrong batches", make([]api.Batch, count), nil, many)
	}
	l := goodBatches(api.MaxEvents+1, 3)
	expectBytes(t, "one batch too many, the last wrong", withBatch(l, api.MaxEvents, batch(0)), nil, api.Fault{Err: api.ErrMany})
	expectBytes(t, "as many as there may be, the last wrong", withBatch(l[1:], api.MaxEvents-1, batch(0)), nil, api.Fault{Err: api.ErrRange, At: 149})
}

// At is the batch's number, not the event's.
func TestE2BytesTellsTheFirstWrongBatch(t *testing.T) {
	wrongs := append(wrongBatches(), batch(-1, misnamed), batch(1, ev("a", 257, 0)), batch(1, ev("a", api.Added, -1)), batch(1<<24+1, unkind), api.Batch{})
	for _, count := range []int{1, 2, 3, 20, api.MaxEvents} {
		whole := goodBatches(count, count)
		for _, at := range []int{0, count / 2, count - 1} {
			for k, b := range wrongs {
				one := withBatch(whole, at, b)
				want := api.Fault{Err: wrongBatchOf(b).Err, At: at}
				expectBytes(t, "one wrong batch", one, nil, want)
				if at < count-1 {
					two := withBatch(one, count-1, wrongs[(k+7)%len(wrongs)])
					expectBytes(t, "two wrong batches", two, nil, want)
				}
			}
		}
	}
}

func TestE2ParseOfBytesCutShortAndMadeLonger(t *testing.T) {
	for count := range 8 {
		l := goodBatches(count, count+5)
		told := bytesOf(l)
		for k := range told {
			expectNone(t, "bytes cut short", told[:k:k], api.ErrForm)
		}
		for _, more := range [][]byte{{0}, {1}, {255}, {0, 0, 0}, told, mixed(300, 1)} {
			expectNone(t, "bytes made longer", slices.Concat(told, more), api.ErrForm)
		}
		for k := range told {
			less := slices.Concat(told[:k], told[k+1:])
			want, err := slowParse(less)
			expectParse(t, "bytes without one of them", less, want, err)
			more := slices.Insert(slices.Clone(told), k, 0)
			want, err = slowParse(more)
			expectParse(t, "bytes with one between them", more, want, err)
		}
	}
	for _, none := range [][]byte{nil, {}} {
		expectNone(t, "no bytes", none, api.ErrForm)
	}
	expectParse(t, "no batches", []byte{0}, nil, api.OK)
}

func TestE2ParseOfEachByteTurned(t *testing.T) {
	for count := range 5 {
		told := bytesOf(goodBatches(count, count+9))
		for k := range told {
			for c := range 256 {
				b := slices.Clone(told)
				b[k] = byte(c)
				want, err := slowParse(b)
				expectParse(t, "bytes of which one is another", b, want, err)
			}
		}
	}
}

func TestE2ParseOfBatchesThatAreWrong(t *testing.T) {
	wrongs := wrongBatches()
	for _, count := range []int{1, 2, 3, 20, api.MaxEvents} {
		whole := goodBatches(count, count)
		for _, at := range []int{0, count / 2, count - 1} {
			for k, b := range wrongs {
				one := withBatch(whole, at, b)
				want := wrongBatchOf(b).Err
				expectNone(t, "one wrong batch", bytesOf(one), want)
				if at < count-1 {
					two := withBatch(one, count-1, wrongs[(k+7)%len(wrongs)])
					expectNone(t, "two wrong batches", bytesOf(two), want)
				}
			}
		}
	}
}

func TestE2ParseOfTooManyBatches(t *testing.T) {
	for count := api.MaxEvents + 1; count <= 255; count++ {
		told := bytesOf(slices.Repeat([]api.Batch{batch(1, ev("a", api.Opened, 0))}, count))
		expectNone(t, "too many batches", told, api.ErrMany)
		expectNone(t, "too many batches, made longer", slices.Concat(told, []byte{0}), api.ErrForm)
		expectNone(t, "too many batches, cut short", told[:len(told)-1], api.ErrForm)
	}
	told := bytesOf(goodBatches(api.MaxEvents+1, 6))
	for k := range told {
		expectNone(t, "one batch too many, cut short", told[:k:k], api.ErrForm)
	}
	expectNone(t, "one batch too many", told, api.ErrMany)
	expectParse(t, "as many as there may be", bytesOf(goodBatches(api.MaxEvents, 6)), goodBatches(api.MaxEvents, 6), api.OK)
}

func TestE2ParseTellsTheFirstErrorThatFits(t *testing.T) {
	for _, b := range wrongBatches() {
		err := wrongBatchOf(b).Err
		told := bytesOf([]api.Batch{b})
		many := bytesOf(slices.Repeat([]api.Batch{b}, api.MaxEvents+1))
		most := bytesOf(slices.Repeat([]api.Batch{b}, api.MaxEvents))
		expectNone(t, "a wrong batch", told, err)
		expectNone(t, "a wrong batch, made longer", slices.Concat(told, []byte{0}), api.ErrForm)
		for k := range told {
			expectNone(t, "a wrong batch, cut short", told[:k:k], api.ErrForm)
		}
		expectNone(t, "too many wrong batches", many, api.ErrMany)
		expectNone(t, "too many wrong batches, made longer", slices.Concat(many, []byte{0}), api.ErrForm)
		expectNone(t, "too many wrong batches, cut short", many[:len(many)-1], api.ErrForm)
		expectNone(t, "as many wrong batches as there may be", most, err)
	}
	// Of one batch too what WrongBatch says is told, in its order.
	for _, c := range []struct {
		name string
		b    api.Batch
		want api.Errno
	}{
		{"Command 0, no events", batch(0), api.ErrRange},
		{"Command 0, a wrong event", batch(0, misnamed), api.ErrRange},
		{"too many events, all wrong", batch(1, make([]api.Event, 11)...), api.ErrMany},
		{"an event with all wrong", batch(1, ev("", 0, 1<<24-1)), api.ErrName},
		{"an event with kind and N wrong", batch(1, ev("a", 0, 1<<24-1)), api.ErrKind},
		{"two wrong events", batch(1, ev("a", 1, 1), ev("a", 0, 0)), api.ErrRange},
	} {
		expectNone(t, c.name, bytesOf([]api.Batch{c.b}), c.want)
	}
}

// roomy is the batches with others behind them, and behind their events others too, and a way to see all of them.
func roomy(l []api.Batch, behind api.Batch) ([]api.Batch, func() []api.Batch) {
	whole := slices.Concat(l, slices.Repeat([]api.Batch{behind}, 20))
	seen := slices.Clone(whole)
	for k, b := range whole {
		seen[k].Events = slices.Concat(b.Events, slices.Repeat([]api.Event{{Stream: "behind", Kind: 2, N: 3}}, 20))
		whole[k].Events = seen[k].Events[:len(b.Events)]
	}
	return whole[:len(l)], func() []api.Batch {
		now := copyOf(whole)
		for k := range now {
			now[k].Events = slices.Concat(now[k].Events, seen[k].Events)
		}
		return now
	}
}

func TestE2WhatIsHandedInIsOnlyRead(t *testing.T) {
	for _, behind := range []api.Batch{{}, batch(0, misnamed), batch(5, ev("b", api.Added, 6))} {
		for _, l := range [][]api.Batch{
			nil,
			goodBatches(1, 2),
			goodBatches(4, 2),
			goodBatches(api.MaxEvents, 2),
			goodBatches(api.MaxEvents+1, 2),
			withBatch(goodBatches(4, 2), 2, batch(3)),
			withBatch(goodBatches(4, 2), 3, batch(3, unkind)),
		} {
			given, look := roomy(l, behind)
			was := look()
			fault := faultOf(l)
			if fault.Err == api.OK {
				expectBytes(t, "batches with room", given, bytesOf(l), fault)
			} else {
				expectBytes(t, "wrong batches with room", given, nil, fault)
			}
			if !same(look(), was) {
				t.Errorf("the batches were %v, and are %v", was, look())
			}
		}
	}
}

func TestE2BytesThatAreHandedInAreOnlyRead(t *testing.T) {
	good := bytesOf(goodBatches(4, 2))
	for _, behind := range []byte{0, 1, 'a', 255} {
		for _, b := range [][]byte{
			nil,
			{0},
			good,
			good[:len(good)-1],
			bytesOf(goodBatches(api.MaxEvents+1, 2)),
			bytesOf([]api.Batch{batch(1, misnamed)}),
		} {
			whole := slices.Concat(b, bytes.Repeat([]byte{behind}, 20))
			was := slices.Clone(whole)
			want, err := slowParse(b)
			expectParse(t, "bytes with room", whole[:len(b)], want, err)
			if !bytes.Equal(whole, was) {
				t.Errorf("the bytes were %v, and are %v", was, whole)
			}
		}
	}
	// What the batches lack is not taken from the room behind the bytes.
	for k := range good {
		expectNone(t, "a beginning, with the rest behind it", good[:k:len(good)], api.ErrForm)
	}
}

// spoilBytes writes over all bytes that the caller of an answer may write over.
func spoilBytes(b []byte) {
	whole := b[:cap(b)]
	for at := range whole {
		whole[at] ^= 255
	}
}

// spoilEvents writes over all events that the caller of an answer may write over.
func spoilEvents(l []api.Event) {
	whole := l[:cap(l)]
	for at := range whole {
		whole[at] = ev("spoilt", -7, -7)
	}
}

// spoilBatches writes over the batches and their events.
func spoilBatches(l []api.Batch) {
	for _, b := range l {
		spoilEvents(b.Events)
	}
	whole := l[:cap(l)]
	for at := range whole {
		whole[at] = batch(-7)
	}
}

func TestE2WhatIsAnsweredIsNewMemory(t *testing.T) {
	for _, count := range []int{0, 1, 4, 20, api.MaxEvents} {
		l := goodBatches(count, 2)
		told := bytesOf(l)
		unchanged := func(name string) {
			t.Helper()
			if !same(l, goodBatches(count, 2)) || !bytes.Equal(told, bytesOf(goodBatches(count, 2))) {
				t.Errorf("%s: what is written into an answer is seen in an argument", name)
			}
		}

		written, _ := event.Bytes(l)
		other, _ := event.Bytes(l)
		spoilBytes(written)
		if !bytes.Equal(other, told) {
			t.Error("Bytes: what is written into one answer is seen in another")
		}
		unchanged("Bytes")
		expectBytes(t, "what was written already", l, told, api.Fault{})

		read, _ := event.Parse(told)
		beside, _ := event.Parse(told)
		spoilBatches(read)
		if !same(beside, l) {
			t.Error("Parse: what is written into one answer is seen in another")
		}
		unchanged("Parse")
		expectParse(t, "what was read already", told, l, api.OK)
	}
}

func TestE2NoTwoListsOfOneAnswerShareMemory(t *testing.T) {
	l := goodBatches(20, 2)
	for at := range l {
		read, _ := event.Parse(bytesOf(l))
		spoilEvents(read[at].Events)
		// Appending writes into spare room, if there is any.
		read[at].Events = append(read[at].Events, misnamed)
		for k := range read {
			if k != at && !slices.Equal(read[k].Events, l[k].Events) {
				t.Errorf("what is written into the events of batch %d is seen in those of batch %d", at, k)
			}
		}
	}
}

func TestE2NothingOfAnArgumentIsKept(t *testing.T) {
	l := goodBatches(7, 2)
	told := bytesOf(l)
	want := copyOf(l)
	written, _ := event.Bytes(l)
	read, _ := event.Parse(told)
	spoilBatches(l)
	spoilBytes(told)
	if !bytes.Equal(written, bytesOf(want)) {
		t.Error("the answer of Bytes changes with what was handed in")
	}
	// The names too: a text may be laid over bytes that are another's.
	if !same(read, want) {
		t.Error("the answer of Parse changes with what was handed in")
	}
}

func TestE2NilAndNoEntriesAreTheSame(t *testing.T) {
	for _, none := range [][]api.Batch{nil, {}, make([]api.Batch, 0, 12), goodBatches(3, 1)[:0]} {
		expectBytes(t, "no batches", none, []byte{0}, api.Fault{})
	}
	for _, none := range [][]byte{nil, {}, make([]byte, 0, 12), bytesOf(goodBatches(3, 1))[:0]} {
		expectNone(t, "no bytes", none, api.ErrForm)
	}
	for _, none := range [][]api.Event{nil, {}, make([]api.Event, 0, 12), goodEvents(3, 1)[:0]} {
		l := withBatch(goodBatches(3, 1), 1, api.Batch{Command: 4, Events: none})
		expectBytes(t, "a batch of no events", l, nil, api.Fault{Err: api.ErrMany, At: 1})
	}
}

// Z1: whatever bytes Parse is given, it ends, does not panic, and answers what the chapter's order of errors asks.
func TestE2ParseOfAllKindsOfBytes(t *testing.T) {
	check := func(b []byte) {
		t.Helper()
		want, err := slowParse(b)
		expectParse(t, "bytes", b, want, err)
		// Bytes that are read are those of their batches.
		if err == api.OK {
			expectBytes(t, "batches that were read", want, b, api.Fault{})
		}
	}
	for c := range 256 {
		check([]byte{byte(c)})
		check(bytes.Repeat([]byte{byte(c)}, 300))
		check(bytes.Repeat([]byte{byte(c)}, 70000))
		check(append([]byte{byte(c)}, make([]byte, 4*c)...))
		check(append([]byte{1, 0, 0, 1, byte(c)}, make([]byte, 5*c)...))
	}
	// Bytes of few values, so that some of them are so written.
	for seed := range uint32(40000) {
		b := mixed(int(seed%60), seed)
		check(b)
		for k := range b {
			b[k] %= 3
		}
		check(b)
		check(append([]byte{1, 0, 0, 5, 1, 1, 'a'}, b...))
		check(append([]byte{1, 0, 0, 5, 1, 1, 'b', 2}, b...))
	}
	for _, length := range []int{1 << 16, 1 << 20} {
		check(mixed(length, 11))
		check(make([]byte, length))
	}
}

// Z1: whatever batches Bytes is given, it ends and does not panic, and what it writes Parse reads.
func TestE2BytesOfAllKindsOfBatches(t *testing.T) {
	check := func(l []api.Batch) {
		t.Helper()
		if fault := faultOf(l); fault.Err != api.OK {
			expectBytes(t, "wrong batches", l, nil, fault)
			return
		}
		expectBoth(t, "good batches", l)
	}
	for _, command := range numbers {
		for _, n := range numbers {
			check([]api.Batch{batch(command, ev("a", api.Added, n))})
			check([]api.Batch{batch(1, ev("a", n, 0)), batch(command, ev("b", 2, 2))})
			check([]api.Batch{batch(1, ev("a", 2, 3)), batch(2, ev("b", command, n))})
		}
	}
	for _, name := range names {
		for kind := -1; kind < 7; kind++ {
			check([]api.Batch{batch(3, ev("a", 1, 0), ev(name, kind, 0))})
			check([]api.Batch{batch(3, ev("a", 1, 0)), batch(4, ev(name, kind, 8))})
		}
	}
	for count := range 260 {
		check(goodBatches(count, 8))
		check([]api.Batch{batch(5, goodEvents(count, 8)...)})
	}
}
