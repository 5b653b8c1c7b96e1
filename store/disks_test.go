package store_test

import (
	"math"
	"slices"
	"testing"

	"spareparts/api"
	"spareparts/store"
)

func TestH4NoSuchDisk(t *testing.T) {
	for _, s := range []api.Setup{setup(1, 0, 1), setup(2, 1, 1), setup(3, 2, 4), setup(8, 4, 10)} {
		for _, l := range [][]api.Do{nil, puts(5), append(puts(5), lose(0))} {
			for _, n := range []int{math.MinInt, -256, -2, -1, s.Data + s.Spare, s.Data + s.Spare + 1, 12, 256, math.MaxInt} {
				expectNothingChanged(t, "no such disk", s, l,
					step{lose(n), refused(api.ErrNone)},
					step{swap(n), refused(api.ErrNone)},
					step{spoil(n, 0, 0, 1), refused(api.ErrNone)},
					step{spoil(n, -1, -1, 1), refused(api.ErrNone)},
				)
			}
			for n := range s.Data + s.Spare {
				_, answers := expectTruth(t, "such a disk", s, append(slices.Clone(l), swap(n), lose(n), swap(n)))
				for _, got := range answers[len(l):] {
					if !sameAnswer(got, done()) {
						t.Errorf("%v: of disk %d %v comes", s, n, got)
					}
				}
			}
		}
	}
}

func TestH4LoseTwice(t *testing.T) {
	for n := range 3 {
		for _, l := range [][]api.Do{{lose(n)}, append(puts(4), lose(n)), append([]api.Do{lose(n)}, puts(4)...), append(puts(4), lose((n+1)%3), lose(n))} {
			expectNothingChanged(t, "gone already", setup(2, 1, 2), l, step{lose(n), refused(api.ErrFit)})
		}
	}
	got := expectSteps(t, "lost, new, lost", setup(2, 1, 1),
		step{put(1, opened("a")), number(1)},
		step{lose(2), done()}, step{lose(2), refused(api.ErrFit)}, step{lose(2), refused(api.ErrFit)},
		step{swap(2), done()}, step{lose(2), done()}, step{lose(2), refused(api.ErrFit)},
		step{lose(0), done()}, step{lose(0), refused(api.ErrFit)})
	if !got.Disks[0].Gone || got.Disks[1].Gone || !got.Disks[2].Gone || len(got.Disks[0].Blocks)+len(got.Disks[2].Blocks) != 0 || len(got.Disks[1].Blocks) != 1 {
		t.Errorf("the disks are %v", got.Disks)
	}
}

func TestH4Swap(t *testing.T) {
	got := expectSteps(t, "new disks", setup(2, 1, 1),
		step{put(1, opened("a")), number(1)},
		step{put(2, opened("b")), number(2)},
		// One that is there, and has blocks, is a new one as well.
		step{swap(1), done()},
		step{health(), number(2)},
		step{all(0), events(2, opened("a"), opened("b"))},
		step{swap(1), done()},
		step{health(), number(2)},
		step{put(3, opened("c")), number(3)},
		step{health(), number(2)},
		step{spoil(1, 0, 0, 1), refused(api.ErrNone)},
		step{spoil(1, 1, 0, 1), refused(api.ErrNone)},
		step{spoil(1, 2, 0, 0), done()},
		step{lose(1), done()},
		step{put(4, opened("d")), number(4)},
		step{swap(1), done()},
		step{swap(2), done()},
		step{all(0), refused(api.ErrLost)},
	)
	for n, want := range []int{4, 0, 0} {
		if got.Disks[n].Gone || len(got.Disks[n].Blocks) != want {
			t.Errorf("disk %d is %v", n, got.Disks[n])
		}
	}
}

func TestH4SpoilOfNoBlock(t *testing.T) {
	s := setup(2, 1, 2)
	for _, segment := range []int{math.MinInt, -256, -1, 0, 1, 2, 39, 40, 256, math.MaxInt} {
		d := spoil(1, segment, 0, 1)
		expectNothingChanged(t, "no segments", s, puts(1), step{d, refused(api.ErrNone)})
		expectNothingChanged(t, "a disk that is gone", s, append(puts(5), lose(1)), step{d, refused(api.ErrNone)})
		expectNothingChanged(t, "a disk that is new", s, append(puts(5), swap(1)), step{d, refused(api.ErrNone)})
		// A block that is not there has no bytes either.
		expectNothingChanged(t, "no byte", s, append(puts(5), swap(1)), step{spoil(1, segment, -1, 1), refused(api.ErrNone)})
		if segment < 0 || segment > 1 {
			expectNothingChanged(t, "no such segment", s, puts(5), step{d, refused(api.ErrNone)})
		}
	}
	// A disk has what was laid while it was there.
	l := []api.Do{put(1, opened("a")), lose(0), put(2, opened("b")), swap(0), put(3, opened("c"))}
	for segment := range 3 {
		d := spoil(0, segment, 0, 1)
		if segment < 2 {
			expectNothingChanged(t, "laid while it was gone", setup(1, 1, 1), l, step{d, refused(api.ErrNone)})
		} else if _, answers := expectTruth(t, "laid later", setup(1, 1, 1), append(l, d)); answers[5].Err != api.OK {
			t.Errorf("of a block that is there comes %v", answers[5])
		}
	}
}

func TestH4SpoilOfEachByte(t *testing.T) {
	s := setup(2, 1, 2)
	l := puts(5)
	was, _, _ := store.Play(s, l)
	for n, disk := range was.Disks {
		for _, held := range disk.Blocks {
			for at, byteThere := range held.Bytes {
				for _, by := range []byte{1, 2, 77, 128, 255} {
					d := spoil(n, held.Segment, at, by)
					got, answers := expectTruth(t, "spoilt", s, append(slices.Clone(l), d))
					if !sameAnswer(answers[5], done()) || got.Disks[n].Blocks[held.Segment].Bytes[at] != byteThere^by {
						t.Errorf("of %v %v comes, and the byte is %d", d, answers[5], got.Disks[n].Blocks[held.Segment].Bytes[at])
					}
					// The same byte turned twice is what it was.
					if got, _ := expectTruth(t, "spoilt twice", s, append(slices.Clone(l), d, d)); !sameStore(got, was) {
						t.Errorf("after %v, twice, the store is %v", d, got)
					}
				}
				if got, answers := expectTruth(t, "spoilt by 0", s, append(slices.Clone(l), spoil(n, held.Segment, at, 0), health())); !sameStore(got, was) || answers[6].N != 0 {
					t.Errorf("by 0 the store is %v", got)
				}
			}
			for _, at := range []int{math.MinInt, -256, -2, -1, len(held.Bytes), len(held.Bytes) + 1, len(held.Bytes) + 256, math.MaxInt} {
				for _, by := range []byte{0, 1, 255} {
					expectNothingChanged(t, "no such byte", s, l, step{spoil(n, held.Segment, at, by), refused(api.ErrRange)})
				}
			}
		}
	}
}

func TestH4Health(t *testing.T) {
	for _, s := range allSetups() {
		disks := s.Data + s.Spare
		l := puts(2*s.Batches + s.Batches/2)
		_, answers := expectTruth(t, "all is right", s, append([]api.Do{health()}, append(l, health())...))
		if !sameAnswer(answers[0], number(0)) || !sameAnswer(answers[len(l)+1], number(0)) {
			t.Errorf("%v: of a store of which nothing is wrong %v comes", s, answers[len(l)+1])
		}
		for n := range disks {
			_, answers := expectTruth(t, "wrong, or gone", s, append(slices.Clone(l), spoil(n, 1, 0, 1), health(), lose(n), health(), swap(n), health(), spoil((n+1)%disks, 0, 5, 6), health()))
			last := 3
			if disks == 1 {
				// The new disk has no block that could be spoilt.
				last = 2
			}
			for k, want := range []int{1, 2, 2, last} {
				if got := answers[len(l)+1+2*k]; !sameAnswer(got, number(want)) {
					t.Errorf("%v: number %d of disk %d is %v, not %d", s, k, n, got, want)
				}
			}
		}
	}
	steps := []step{}
	for _, d := range puts(40) {
		steps = append(steps, step{d, number(len(steps) + 1)})
	}
	steps = append(steps, step{health(), number(0)})
	for n := range 12 {
		steps = append(steps, step{lose(n), done()}, step{health(), number(40 * (n + 1))})
	}
	expectSteps(t, "all blocks are gone", setup(8, 4, 1), steps...)
}

func TestH4ScrubOfNothingThatIsWrong(t *testing.T) {
	for _, s := range allSetups() {
		for _, n := range []int{0, 1, s.Batches, 2*s.Batches + 1} {
			was, _ := expectTruth(t, "as it was", s, puts(n))
			got, answers := expectTruth(t, "scrubbed", s, append(puts(n), scrub(), scrub()))
			if !sameStore(got, was) || !sameAnswer(answers[n], number(0)) || !sameAnswer(answers[n+1], number(0)) {
				t.Errorf("%v: of a store of which nothing is wrong %v comes", s, answers[n:])
			}
		}
	}
}

// Scrubbed it is clean: as many as are spare may be spoilt, new, or both.
func TestH4ScrubIsClean(t *testing.T) {
	for data := 1; data <= 4; data++ {
		for spare := range 4 {
			for batches := 1; batches <= 3; batches++ {
				s := setup(data, spare, batches)
				l := dos(ordinary())
				was, _ := expectTruth(t, "as it was", s, l)
				for _, choice := range choices(data+spare, spare) {
					for ways := range 3 {
						harmed := slices.Clone(l)
						bad := 0
						for k, n := range choice {
							if (k+ways)%3 == 0 {
								harmed = append(harmed, swap(n))
								bad += was.Segments
							} else if was.Segments > 0 {
								harmed = append(harmed, spoil(n, ways%was.Segments, (k+4*ways)%12, byte(1+n)))
								bad++
							}
						}
						got, answers := expectTruth(t, "scrubbed", s, append(slices.Clone(harmed), health(), scrub(), health(), scrub(), all(0)))
						for k, want := range []api.Answer{number(bad), number(bad), number(0), number(0), events(10, ordinaryEvents()...)} {
							if got := answers[len(harmed)+k]; !sameAnswer(got, want) {
								t.Errorf("%v: number %d behind %v is %v, not %v", s, k, harmed, got, want)
							}
						}
						if !sameStore(got, was) {
							t.Errorf("%v: %v was scrubbed, and the store is %v, not %v", s, harmed, got, was)
						}
					}
				}
			}
		}
	}
}

func TestH4ScrubWithDisksThatAreGone(t *testing.T) {
	for _, s := range []api.Setup{setup(1, 1, 1), setup(2, 1, 1), setup(2, 2, 2), setup(3, 2, 1), setup(1, 3, 5)} {
		l := dos(ordinary())
		was, _ := expectTruth(t, "as it was", s, l)
		for gone := range s.Data + s.Spare {
			got, answers := expectTruth(t, "one is gone", s, append(slices.Clone(l), lose(gone), scrub(), health(), scrub()))
			// What is gone is bad, and is neither mended nor counted.
			for k, want := range []api.Answer{number(0), number(was.Segments), number(0)} {
				if a := answers[len(l)+1+k]; !sameAnswer(a, want) {
					t.Errorf("%v: number %d with %d gone is %v, not %v", s, k, gone, a, want)
				}
			}
			if disk := got.Disks[gone]; !disk.Gone || len(disk.Blocks) != 0 {
				t.Errorf("%v: disk %d is %v", s, gone, disk)
			}
			got, answers = expectTruth(t, "and is new", s, append(slices.Clone(l), lose(gone), scrub(), swap(gone), scrub(), health()))
			if !sameStore(got, was) || !sameAnswer(answers[len(l)+3], number(was.Segments)) || !sameAnswer(answers[len(l)+4], number(0)) {
				t.Errorf("%v: disk %d is new, and %v comes", s, gone, answers[len(l)+3:])
			}
			if s.Spare < 2 {
				continue
			}
			other := (gone + 1) % (s.Data + s.Spare)
			_, answers = expectTruth(t, "one is gone, one is spoilt", s, append(slices.Clone(l), lose(gone), spoil(other, 0, 8, 8), health(), scrub(), health()))
			for k, want := range []api.Answer{number(was.Segments + 1), number(1), number(was.Segments)} {
				if a := answers[len(l)+2+k]; !sameAnswer(a, want) {
					t.Errorf("%v: number %d with %d gone and %d spoilt is %v, not %v", s, k, gone, other, a, want)
				}
			}
		}
	}
}

// A segment of which too much is gone stays as it is; the others are mended, and N tells of them alone.
func TestH4ScrubOfWhatIsLostAmongOthers(t *testing.T) {
	begun := []step{{put(1, opened("a")), number(1)}, {put(2, opened("b")), number(2)}, {put(3, opened("c")), number(3)}, {put(4, opened("d")), number(4)}}
	for lost := range 4 {
		other := (lost + 1) % 4
		third := (lost + 2) % 4
		got := expectSteps(t, "one is lost", setup(2, 1, 1), append(slices.Clone(begun),
			step{spoil(0, lost, 9, 1), done()},
			step{spoil(2, lost, 2, 1), done()},
			step{spoil(1, other, 0, 1), done()},
			step{spoil(2, third, 4, 7), done()},
			step{health(), number(4)},
			step{scrub(), api.Answer{Err: api.ErrLost, N: 2}},
			step{health(), number(2)},
			step{scrub(), api.Answer{Err: api.ErrLost}},
			step{all(0), refused(api.ErrLost)},
		)...)
		clean, _, _ := store.Play(setup(2, 1, 1), dos(begun))
		for n, disk := range got.Disks {
			for segment, held := range disk.Blocks {
				want := clean.Disks[n].Blocks[segment]
				if segment == lost && n == 0 {
					want.Bytes[9] ^= 1
				}
				if segment == lost && n == 2 {
					want.Bytes[2] ^= 1
				}
				if !sameHeld(held, want) {
					t.Errorf("the block of segment %d on disk %d is %v, not %v", segment, n, held, want)
				}
			}
		}
		// If one of the two comes right again all is mended.
		expectSteps(t, "one is lost, and comes back", setup(2, 1, 1), append(slices.Clone(begun),
			step{spoil(0, lost, 9, 1), done()},
			step{spoil(2, lost, 2, 1), done()},
			step{scrub(), api.Answer{Err: api.ErrLost}},
			step{spoil(2, lost, 2, 1), done()},
			step{scrub(), number(1)},
			step{health(), number(0)},
			step{all(0), events(4, opened("a"), opened("b"), opened("c"), opened("d"))},
		)...)
	}
	// The document's words for N: on disks that aren't gone, where it could be mended.
	expectSteps(t, "lost, and a new disk", setup(2, 1, 1),
		step{put(1, opened("a")), number(1)},
		step{put(2, opened("b")), number(2)},
		step{lose(1), done()},
		step{spoil(0, 0, 9, 1), done()},
		step{scrub(), api.Answer{Err: api.ErrLost}},
		step{swap(1), done()},
		step{scrub(), api.Answer{Err: api.ErrLost, N: 1}},
		step{scrub(), api.Answer{Err: api.ErrLost}},
		step{health(), number(2)},
		step{put(3, opened("c")), number(3)},
		step{lose(2), done()},
		step{scrub(), api.Answer{Err: api.ErrLost}},
		step{health(), number(5)},
	)
	expectSteps(t, "no spare disk", setup(3, 0, 1),
		step{put(1, opened("a")), number(1)},
		step{put(2, opened("b")), number(2)},
		step{spoil(0, 1, 9, 1), done()},
		step{scrub(), api.Answer{Err: api.ErrLost}},
		step{spoil(0, 1, 9, 1), done()},
		step{scrub(), number(0)},
		step{swap(2), done()},
		step{scrub(), api.Answer{Err: api.ErrLost}},
		step{health(), number(2)},
	)
}

// The blocks that come to a new disk rise by segments, whichever it has.
func TestH4ScrubPutsEarlierSegmentsAhead(t *testing.T) {
	s := setup(2, 1, 1)
	l := slices.Concat(puts(2), []api.Do{lose(0)}, []api.Do{put(50, opened("m")), swap(0), put(51, opened("n")), put(52, opened("o"))})
	got, _ := expectTruth(t, "later ones alone", s, l)
	if held := got.Disks[0].Blocks; len(held) != 2 || held[0].Segment != 3 || held[1].Segment != 4 {
		t.Errorf("the new disk has %v", held)
	}
	// One of the earlier ones can't be mended, and stays away.
	for _, lost := range []int{-1, 0, 1, 2} {
		steps := slices.Clone(l)
		if lost >= 0 {
			steps = append(steps, spoil(1, lost, 3, 3))
		}
		got, answers := expectTruth(t, "scrubbed", s, append(steps, scrub(), spoil(0, 3, 0, 1), scrub()))
		var segments []int
		for _, held := range got.Disks[0].Blocks {
			segments = append(segments, held.Segment)
		}
		want := slices.DeleteFunc([]int{0, 1, 2, 3, 4}, func(k int) bool { return k == lost })
		if !slices.Equal(segments, want) || answers[len(steps)].N != len(want)-2 {
			t.Errorf("the new disk has segments %v, not %v", segments, want)
		}
	}
}
