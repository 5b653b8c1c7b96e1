package store_test

import (
	"slices"
	"testing"

	"spareparts/api"
	"spareparts/block"
	"spareparts/event"
	"spareparts/store"
	"spareparts/stripe"
	"spareparts/view"
)

// blocksOf is what the disks have of a segment, looked for one by one.
func blocksOf(s api.Store, segment int) [][]byte {
	var l [][]byte
	for _, disk := range s.Disks {
		var told []byte
		for _, held := range disk.Blocks {
			if held.Segment == segment && !disk.Gone {
				told = held.Bytes
			}
		}
		l = append(l, told)
	}
	return l
}

// forge is the spoiling by which a disk's block comes to be another one of which the sum is right,
// in a store that l leads to.
func forge(t *testing.T, s api.Setup, l []api.Do, n, segment int, change func(b *api.Block)) []api.Do {
	t.Helper()
	before, _, _ := store.Play(s, l)
	was := blocksOf(before, segment)[n]
	b, err := block.Parse(was)
	if err != api.OK {
		t.Fatalf("the block of segment %d on disk %d is not right: %v", segment, n, was)
	}
	change(&b)
	told, err := block.Bytes(b)
	if err != api.OK || len(told) != len(was) {
		t.Fatalf("a block of %d bytes can't be one of %d, or error %d", len(was), len(told), err)
	}
	out := slices.Clone(l)
	for at := range told {
		if told[at] != was[at] {
			out = append(out, spoil(n, segment, at, told[at]^was[at]))
		}
	}
	return out
}

// letters has each byte of Data that is old come to be another one.
func letters(old, other byte) func(b *api.Block) {
	return func(b *api.Block) {
		for at := range b.Data {
			if b.Data[at] == old {
				b.Data[at] = other
			}
		}
	}
}

func dataAt(at int, value byte) func(b *api.Block) { return func(b *api.Block) { b.Data[at] = value } }

func sizeOf(size int) func(b *api.Block) { return func(b *api.Block) { b.Size = size } }

// expectBehind holds what comes behind l against what must come.
func expectBehind(t *testing.T, name string, s api.Setup, l []api.Do, more ...step) api.Store {
	t.Helper()
	got, answers, err := store.Play(s, append(slices.Clone(l), dos(more)...))
	if err != api.OK {
		t.Fatalf("%s: Play of %v tells error %d", name, s, err)
	}
	for _, a := range answers[:len(l)] {
		if a.Err != api.OK {
			t.Fatalf("%s: something was refused with error %d", name, a.Err)
		}
	}
	for k, x := range more {
		if a := answers[len(l)+k]; !sameAnswer(a, x.want) {
			t.Errorf("%s: of %v, number %d, comes %v, not %v", name, x.do, k, a, x.want)
		}
	}
	return got
}

// What a disk tells is believed where its sum is right; the snapshot is of what was put in.
func TestH3OfOtherEventsWithRightSums(t *testing.T) {
	s := setup(1, 0, 1)
	l := forge(t, s, []api.Do{put(1, opened("a"), added("a", 7))}, 0, 0, letters('a', 'b'))
	got := expectBehind(t, "other events", s, l,
		step{health(), number(0)},
		step{all(0), events(2, opened("b"), added("b", 7))},
		step{all(1), events(2, added("b", 7))},
		step{read("a"), events(0)},
		step{read("b"), events(2, opened("b"), added("b", 7))},
		step{seen(), accounts(2, account("b", 7, 2, true))},
		step{scrub(), number(0)},
		step{putAt("b", 2, 2, added("b", 1)), refused(api.ErrOld)},
		step{putAt("b", 0, 2, added("b", 1)), refused(api.ErrFit)},
		step{putAt("a", 2, 2, taken("a", 1)), number(3)},
		step{all(0), events(3, opened("b"), added("b", 7), taken("a", 1))},
		// What is told can't have come so.
		step{seen(), refused(api.ErrFit)},
		step{all(4), refused(api.ErrRange)},
		step{read("A"), refused(api.ErrName)},
	)
	if want := viewOf(3, account("a", 6, 3, true)); !sameView(got.Snap, want) || !slices.Equal(got.Seen, []int{1, 2}) {
		t.Errorf("the store is %v", got)
	}
}

func TestH3OfNoBatchesWithRightSums(t *testing.T) {
	s := setup(1, 0, 1)
	// {1, 0, 0, 9, 1, 1, 'a', 1, 0, 0, 0}
	l := []api.Do{put(9, opened("a"))}
	for _, c := range []struct {
		name   string
		change func(b *api.Block)
		err    api.Errno
	}{
		{"two batches", dataAt(0, 2), api.ErrForm},
		{"no batch", dataAt(0, 0), api.ErrForm},
		{"no events", dataAt(4, 0), api.ErrForm},
		{"no letters", dataAt(5, 0), api.ErrForm},
		{"command 0", dataAt(3, 0), api.ErrRange},
		{"a command that is too great", dataAt(1, 16), api.ErrRange},
		{"no name", dataAt(6, 'A'), api.ErrName},
		{"no kind", dataAt(7, 0), api.ErrKind},
		{"an N that Opened has not", dataAt(10, 1), api.ErrRange},
		{"a byte less", sizeOf(10), api.ErrForm},
		{"nothing", sizeOf(0), api.ErrForm},
		{"a byte more", sizeOf(12), api.ErrFit},
		{"another segment", func(b *api.Block) { b.Segment = 1 }, api.ErrLost},
		{"another shard", func(b *api.Block) { b.Shard = 1 }, api.ErrLost},
	} {
		bad := 0
		if c.err == api.ErrLost {
			bad = 1
		}
		// Told ahead of a name that is none and of a number that there is not.
		expectBehind(t, c.name, s, forge(t, s, l, 0, 0, c.change),
			step{all(0), refused(c.err)}, step{all(-1), refused(c.err)}, step{all(2), refused(c.err)},
			step{read("a"), refused(c.err)}, step{read("A"), refused(c.err)}, step{seen(), refused(c.err)},
			step{health(), number(bad)})
	}
	// An event that is one, and may not come.
	expectBehind(t, "added ahead of opened", s, forge(t, s, l, 0, 0, dataAt(7, 2)),
		step{all(0), events(1, added("a", 0))}, step{read("a"), events(1, added("a", 0))}, step{seen(), refused(api.ErrFit)})
	// No events at all: {0}.
	expectBehind(t, "nothing", s, forge(t, s, l, 0, 0, func(b *api.Block) { b.Size, b.Data[0] = 1, 0 }),
		step{all(0), events(0)}, step{read("a"), events(0)}, step{seen(), accounts(0)}, step{all(1), refused(api.ErrRange)})
}

// Disks may tell more events than there may be.
func TestH3OfMoreEventsThanMayBe(t *testing.T) {
	s := setup(1, 0, 1)
	var l []api.Do
	for k := range 15 {
		l = append(l, long(k+1, 10, 15))
	}
	whole := long(15, 10, 15).Batch.Events
	// The last two events of fifteen bytes make room for one of eight, four bytes of a batch, and three of six.
	other := []api.Batch{
		{Command: 15, Events: append(whole[:8:8], opened("aaa"))},
		{Command: 16, Events: []api.Event{opened("b"), opened("c"), opened("d")}},
	}
	told, _ := event.Bytes(other)
	l = forge(t, s, l, 0, 14, func(b *api.Block) { b.Data = told })
	expectBehind(t, "152 events", s, l,
		step{seen(), refused(api.ErrMany)},
		step{all(148), events(152, opened("aaa"), opened("b"), opened("c"), opened("d"))},
		step{all(152), events(152)},
		step{all(153), refused(api.ErrRange)},
		step{read("c"), events(1, opened("c"))},
		step{health(), number(0)},
		step{put(17, opened("x")), refused(api.ErrMany)},
	)
}

// Segment by segment: of the first one of which something can't be told the error is told.
func TestH3OfSeveralErrors(t *testing.T) {
	s := setup(1, 1, 1)
	begun := []api.Do{put(1, opened("a")), put(2, opened("b")), put(3, opened("c"))}
	harms := map[api.Errno]func(l []api.Do, segment int) []api.Do{
		api.ErrLost: func(l []api.Do, segment int) []api.Do {
			return append(slices.Clone(l), spoil(0, segment, 0, 1), spoil(1, segment, 0, 1))
		},
		// Two blocks that are right, and tell two sizes.
		api.ErrFit:  func(l []api.Do, segment int) []api.Do { return forge(t, s, l, 1, segment, sizeOf(7)) },
		api.ErrForm: func(l []api.Do, segment int) []api.Do { return forge(t, s, l, 0, segment, dataAt(0, 2)) },
		api.ErrKind: func(l []api.Do, segment int) []api.Do { return forge(t, s, l, 0, segment, dataAt(7, 0)) },
	}
	for first, harm := range harms {
		for second, further := range harms {
			for segment := range 3 {
				for behind := segment + 1; behind < 3; behind++ {
					for _, l := range [][]api.Do{further(harm(begun, segment), behind), harm(further(begun, behind), segment)} {
						expectBehind(t, "two errors", s, l,
							step{all(0), refused(first)}, step{read("a"), refused(first)}, step{seen(), refused(first)}, step{all(9), refused(first)}, step{read(""), refused(first)})
					}
				}
				expectBehind(t, "one error", s, further(begun, segment), step{all(0), refused(second)}, step{seen(), refused(second)})
			}
		}
	}
}

// Scrub tells the first error, whichever come later, and mends what it can.
func TestH4ScrubOfSeveralErrors(t *testing.T) {
	s := setup(1, 2, 1)
	begun := []api.Do{put(1, opened("a")), put(2, opened("b")), put(3, opened("c"))}
	clean, _, _ := store.Play(s, begun)
	lost := func(l []api.Do, segment int) []api.Do {
		return append(slices.Clone(l), spoil(0, segment, 0, 1), spoil(1, segment, 0, 1), spoil(2, segment, 0, 1))
	}
	unfit := func(l []api.Do, segment int) []api.Do {
		return append(forge(t, s, l, 1, segment, sizeOf(7)), spoil(2, segment, 0, 1))
	}
	for _, order := range permutations([]int{0, 1, 2}) {
		l := lost(begun, order[0])
		l = unfit(l, order[1])
		l = append(l, spoil(0, order[2], 3, 3), spoil(1, order[2], 5, 200))
		harmed, _, _ := store.Play(s, l)
		first := api.ErrLost
		if order[1] < order[0] {
			first = api.ErrFit
		}
		got := expectBehind(t, "two errors", s, l,
			step{health(), number(3 + 1 + 2)},
			step{scrub(), api.Answer{Err: first, N: 2}},
			step{health(), number(4)},
			step{scrub(), api.Answer{Err: first}},
		)
		for _, segment := range order {
			want := blocksOf(harmed, segment)
			if segment == order[2] {
				want = blocksOf(clean, segment)
			}
			if !slices.EqualFunc(blocksOf(got, segment), want, slices.Equal) {
				t.Errorf("the blocks of segment %d are %v, not %v", segment, blocksOf(got, segment), want)
			}
		}
	}
}

// What does not go together is none of those that are bad, so it is not mended.
func TestH4ScrubOfBlocksThatDoNotGoTogether(t *testing.T) {
	s := setup(1, 1, 1)
	l := forge(t, s, []api.Do{put(1, opened("a"))}, 1, 0, sizeOf(7))
	before, _, _ := store.Play(s, l)
	got := expectBehind(t, "two sizes", s, l, step{health(), number(0)}, step{scrub(), number(0)}, step{all(0), refused(api.ErrFit)})
	if !sameStore(got, before) {
		t.Errorf("the store is %v, not %v", got, before)
	}
	// With one of them away the other one is believed, and mends it.
	expectBehind(t, "one size", s, append(slices.Clone(l), swap(1)), step{scrub(), number(1)}, step{all(0), events(1, opened("a"))})
	expectBehind(t, "the other size", s, append(slices.Clone(l), swap(0)), step{all(0), refused(api.ErrForm)}, step{scrub(), number(1)}, step{health(), number(0)}, step{all(0), refused(api.ErrForm)})
}

// All blocks of a segment that is mended are laid anew, the right ones too.
func TestH4ScrubLaysAllBlocksAnew(t *testing.T) {
	s := setup(1, 2, 1)
	l := forge(t, s, []api.Do{put(1, opened("a"))}, 0, 0, sizeOf(7))
	l = append(l, spoil(1, 0, 0, 1), lose(2))
	got := expectBehind(t, "seven bytes", s, l, step{health(), number(2)}, step{scrub(), number(1)}, step{health(), number(1)})
	want, _ := stripe.Lay([]byte{1, 0, 0, 1, 1, 1, 'a'}, 0, 1, 2)
	want[2] = nil
	if !slices.EqualFunc(blocksOf(got, 0), want, slices.Equal) {
		t.Errorf("the blocks are %v, not %v", blocksOf(got, 0), want)
	}
	last := len(want[0]) - 1
	expectBehind(t, "a byte that there is no more", s, append(l, scrub()), step{spoil(0, 0, last+1, 1), refused(api.ErrRange)}, step{spoil(0, 0, last, 1), done()})
}

// tellOf is H3's words, for a store as it looks from outside.
func tellOf(s api.Store, d api.Do) api.Answer {
	var all []api.Event
	for segment := range s.Segments {
		told, err := stripe.Read(blocksOf(s, segment), segment, s.Setup.Data)
		if err != api.OK {
			return refused(err)
		}
		batches, err := event.Parse(told)
		if err != api.OK {
			return refused(err)
		}
		all = append(all, eventsOf(batches)...)
	}
	all = append(all, eventsOf(s.Tail)...)
	switch d.Kind {
	case api.DoAll:
		if d.N < 0 || d.N > len(all) {
			return refused(api.ErrRange)
		}
		return events(len(all), all[d.N:]...)
	case api.DoRead:
		if !event.Named(d.Stream) {
			return refused(api.ErrName)
		}
		var some []api.Event
		for _, e := range all {
			if e.Stream == d.Stream {
				some = append(some, e)
			}
		}
		return events(len(some), some...)
	}
	v, f := view.Fold(api.View{}, all)
	if f.Err != api.OK {
		return refused(f.Err)
	}
	return api.Answer{N: len(all), View: v}
}

// scrubOf is H4's words for DoScrub and DoHealth, for a store as it looks from outside: what comes of each,
// and the blocks of each segment then.
func scrubOf(s api.Store) (scrubbed, healthy api.Answer, then [][][]byte) {
	for segment := range s.Segments {
		blocks := blocksOf(s, segment)
		bad := stripe.Bad(blocks, segment)
		healthy.N += len(bad)
		if mended, err := stripe.Mend(blocks, segment, s.Setup.Data); len(bad) > 0 && err == api.OK {
			for n, disk := range s.Disks {
				if !disk.Gone {
					blocks[n] = mended[n]
					if slices.Contains(bad, n) {
						scrubbed.N++
					}
				}
			}
		} else if len(bad) > 0 && scrubbed.Err == api.OK {
			scrubbed.Err = err
		}
		then = append(then, blocks)
	}
	return scrubbed, healthy, then
}

// someChange is what may come of a block of which the sum is right.
func someChange(pick func(int) int) func(b *api.Block) {
	at, value := pick(1000), byte(pick(256))
	switch pick(7) {
	case 0:
		return func(b *api.Block) { b.Size = pick(len(b.Data)*3 + 2) }
	case 1:
		return func(b *api.Block) { b.Segment = pick(3) }
	case 2:
		return func(b *api.Block) { b.Shard = pick(4) }
	case 3:
		return letters('a', "abcA"[pick(4)])
	case 4:
		return func(b *api.Block) { b.Data[at%len(b.Data)] = value }
	}
	return func(b *api.Block) { b.Data[at%len(b.Data)] ^= 1 << (value % 3) }
}

// Whatever disks tell, with right sums or without, what comes of it is what the words make of it.
func TestH3H4OfAllKindsOfForgedBlocks(t *testing.T) {
	pick := chance(11)
	told, scrubbed := map[api.Errno]int{}, map[api.Errno]int{}
	for range 1500 {
		s := setup(1+pick(2), pick(3), 1+pick(2))
		var l []api.Do
		for k := range 1 + pick(4) {
			l = append(l, put(k+1, opened(string(rune('a'+k))), added("a", 7)))
		}
		for range 1 + pick(4) {
			before, _, _ := store.Play(s, l)
			n := pick(len(before.Disks))
			if held := before.Disks[n].Blocks; len(held) == 0 || pick(4) == 0 {
				l = append(l, []api.Do{lose(n), swap(n), spoil(n, 0, pick(12), 1), scrub()}[pick(4)])
			} else if at := pick(len(held)); len(l) < 50 && len(stripe.Bad(blocksOf(before, held[at].Segment), held[at].Segment)) == 0 {
				l = forge(t, s, l, n, held[at].Segment, someChange(pick))
			}
		}
		before, _, _ := store.Play(s, l)
		behind := []api.Do{all(0), all(pick(9)), read("a"), read("A"), seen(), health()}
		var want []api.Answer
		for _, d := range behind[:5] {
			a := tellOf(before, d)
			want = append(want, a)
			told[a.Err]++
		}
		a, b, then := scrubOf(before)
		want = append(want, b, a)
		scrubbed[a.Err]++
		got, answers, _ := store.Play(s, slices.Concat(l, behind, []api.Do{scrub()}))
		for k, w := range want {
			if a := answers[len(l)+k]; !sameAnswer(a, w) {
				t.Errorf("number %d behind %v, of %v, is %v, not %v", k, l, s, a, w)
			}
		}
		for segment, blocks := range then {
			if !slices.EqualFunc(blocksOf(got, segment), blocks, slices.Equal) {
				t.Errorf("behind %v, of %v, the blocks of segment %d are %v, not %v", l, s, segment, blocksOf(got, segment), blocks)
			}
		}
	}
	for _, err := range []api.Errno{api.OK, api.ErrForm, api.ErrRange, api.ErrName, api.ErrKind, api.ErrFit, api.ErrLost} {
		if told[err] < 20 {
			t.Errorf("error %d was told only %d times", err, told[err])
		}
	}
	for _, err := range []api.Errno{api.OK, api.ErrFit, api.ErrLost} {
		if scrubbed[err] < 10 {
			t.Errorf("error %d came of DoScrub only %d times", err, scrubbed[err])
		}
	}
}
