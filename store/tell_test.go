package store_test

import (
	"math"
	"slices"
	"testing"

	"spareparts/api"
)

func TestH3OfNothing(t *testing.T) {
	for _, s := range allSetups() {
		expectSteps(t, "nothing", s,
			step{read("a"), events(0)},
			step{all(0), events(0)},
			step{seen(), accounts(0)},
			step{all(1), refused(api.ErrRange)},
			step{all(-1), refused(api.ErrRange)},
			step{read(""), refused(api.ErrName)},
		)
	}
}

// ordinary is a few batches of three streams.
func ordinary() []step {
	return []step{
		{put(4, opened("a"), added("a", 7), opened("b")), number(3)},
		{put(3, taken("a", 2), added("b", 1)), number(5)},
		{put(9, closed("b")), number(6)},
		{put(1, opened("c"), opened("b"), added("a", 1)), number(9)},
		{put(2, added("a", 1000000)), number(10)},
	}
}

func ordinaryEvents() []api.Event {
	return []api.Event{opened("a"), added("a", 7), opened("b"), taken("a", 2), added("b", 1), closed("b"), opened("c"), opened("b"), added("a", 1), added("a", 1000000)}
}

// Of a tail alone, of segments alone, and of both the same is told.
func TestH3OfTailAndSegments(t *testing.T) {
	whole := ordinaryEvents()
	for batches := 1; batches <= 10; batches++ {
		for _, s := range []api.Setup{setup(1, 0, batches), setup(2, 1, batches), setup(8, 4, batches)} {
			steps := append(ordinary(),
				step{read("a"), events(5, opened("a"), added("a", 7), taken("a", 2), added("a", 1), added("a", 1000000))},
				step{read("b"), events(4, opened("b"), added("b", 1), closed("b"), opened("b"))},
				step{read("c"), events(1, opened("c"))},
				step{read("d"), events(0)},
				step{read("aa"), events(0)},
				step{seen(), accounts(10, account("a", 1000006, 5, true), account("b", 1, 4, true), account("c", 0, 1, true))},
			)
			for n := range whole {
				steps = append(steps, step{all(n), events(10, whole[n:]...)})
			}
			got := expectSteps(t, "some batches", s, append(steps, step{all(10), events(10)})...)
			if got.Segments != 5/batches || len(got.Tail) != 5%batches {
				t.Errorf("%v: there are %d segments and a tail of %d", s, got.Segments, len(got.Tail))
			}
		}
	}
}

func TestH3AllFromANumberOn(t *testing.T) {
	for batches := 1; batches <= 6; batches++ {
		s := setup(2, 1, batches)
		for _, n := range []int{math.MinInt, -256, -11, -2, -1, 11, 12, 256, math.MaxInt} {
			expectNothingChanged(t, "no such number", s, dos(ordinary()), step{all(n), refused(api.ErrRange)})
		}
	}
	expectSteps(t, "one event", setup(2, 1, 1),
		step{put(1, opened("a")), number(1)},
		step{all(-1), refused(api.ErrRange)},
		step{all(0), events(1, opened("a"))},
		step{all(1), events(1)},
		step{all(2), refused(api.ErrRange)},
	)
}

func TestH3ReadOfNoName(t *testing.T) {
	for _, s := range []api.Setup{setup(2, 1, 1), setup(2, 1, 2), setup(1, 0, 10)} {
		for _, l := range [][]api.Do{nil, dos(ordinary())} {
			for _, name := range []string{"", "A", "a ", " a", "a-b", "elevenchars", "ä", "\xff", "\x00", "a\x00", "aaaaaaaaaaaaaaaaaaaaaaaaaaaaaa"} {
				expectNothingChanged(t, "no name", s, l, step{read(name), refused(api.ErrName)})
			}
			for _, name := range []string{"x", "0", "9", "z9", "tencharsxx", "0123456789"} {
				_, answers := expectTruth(t, "a name of no events", s, append(slices.Clone(l), read(name)))
				if got := answers[len(l)]; !sameAnswer(got, events(0)) {
					t.Errorf("%v: of %q %v comes", s, name, got)
				}
			}
		}
	}
}

// choices is all choices of so many of n disks.
func choices(n, many int) [][]int {
	if many == 0 {
		return [][]int{nil}
	}
	var out [][]int
	for last := many - 1; last < n; last++ {
		for _, rest := range choices(last, many-1) {
			out = append(out, append(slices.Clone(rest), last))
		}
	}
	return out
}

func loseAll(l []int) []api.Do {
	var out []api.Do
	for _, n := range l {
		out = append(out, lose(n))
	}
	return out
}

// The truth, or that it is lost; as many as are spare.
func TestH3WithDisksThatAreGone(t *testing.T) {
	telling := []api.Do{all(0), all(4), all(10), read("a"), read("c"), read("x"), seen()}
	// Told ahead of what else may be wrong.
	telling = append(telling, all(-1), all(11), read("No Name"))
	for data := 1; data <= 4; data++ {
		for spare := range 4 {
			for batches := 1; batches <= 4; batches++ {
				s := setup(data, spare, batches)
				_, whole := expectTruth(t, "no disk is gone", s, slices.Concat(dos(ordinary()), telling))
				for gone := 0; gone <= spare+1 && gone <= data+spare; gone++ {
					for _, choice := range choices(data+spare, gone) {
						l := slices.Concat(dos(ordinary()), loseAll(choice), telling)
						_, answers := expectTruth(t, "disks are gone", s, l)
						for k, got := range answers[5+gone:] {
							want := whole[5+k]
							if gone > spare {
								want = refused(api.ErrLost)
							}
							if !sameAnswer(got, want) {
								t.Errorf("%v: of %v, with %v gone, %v comes, not %v", s, telling[k], choice, got, want)
							}
						}
					}
				}
			}
		}
	}
}

// Where nothing is on disks nothing is lost with them.
func TestH3WithDisksThatAreGoneAndATailAlone(t *testing.T) {
	for data := 1; data <= 4; data++ {
		for spare := range 3 {
			s := setup(data, spare, 6)
			for gone := 0; gone <= data+spare; gone++ {
				var steps []step
				for n := range gone {
					steps = append(steps, step{lose(n), done()})
				}
				steps = append(steps, step{all(0), events(0)}, step{seen(), accounts(0)}, step{read("a"), events(0)})
				steps = append(steps, ordinary()...)
				steps = append(steps,
					step{all(0), events(10, ordinaryEvents()...)},
					step{read("c"), events(1, opened("c"))},
					step{read("No Name"), refused(api.ErrName)},
					step{all(11), refused(api.ErrRange)},
					step{seen(), accounts(10, account("a", 1000006, 5, true), account("b", 1, 4, true), account("c", 0, 1, true))},
					step{health(), number(0)},
				)
				expectSteps(t, "a tail, and disks that are gone", s, steps...)
			}
		}
	}
}

// What was laid while disks were gone is lost with as many more as there are too few.
func TestH3OfSegmentsOfWhichSomeAreLost(t *testing.T) {
	s := setup(2, 1, 1)
	expectSteps(t, "a later segment is lost", s,
		step{put(1, opened("a")), number(1)},
		step{lose(0), done()},
		step{put(2, opened("b")), number(2)},
		step{swap(0), done()},
		// The first one has two blocks, and so has the second one.
		step{all(0), events(2, opened("a"), opened("b"))},
		step{put(3, opened("c")), number(3)},
		step{lose(1), done()},
		step{all(0), refused(api.ErrLost)},
		step{read("c"), refused(api.ErrLost)},
		step{read(""), refused(api.ErrLost)},
		step{seen(), refused(api.ErrLost)},
		step{all(3), refused(api.ErrLost)},
		step{all(4), refused(api.ErrLost)},
		step{health(), number(5)},
	)
	for segment := range 4 {
		expectSteps(t, "a segment is lost", s,
			step{put(1, opened("a")), number(1)}, step{put(2, opened("b")), number(2)}, step{put(3, opened("c")), number(3)}, step{put(4, opened("d")), number(4)},
			step{spoil(0, segment, 1, 1), done()},
			step{all(0), events(4, opened("a"), opened("b"), opened("c"), opened("d"))},
			step{spoil(2, segment, 0, 1), done()},
			step{all(0), refused(api.ErrLost)},
			step{seen(), refused(api.ErrLost)},
			step{read("a"), refused(api.ErrLost)},
			step{spoil(0, segment, 1, 1), done()},
			step{seen(), accounts(4, account("a", 0, 1, true), account("b", 0, 1, true), account("c", 0, 1, true), account("d", 0, 1, true))},
		)
	}
}

// With any byte of one block turned all is told; nothing else than the truth is told with two turned.
func TestH3WithEachByteTurned(t *testing.T) {
	s := setup(2, 1, 2)
	l := dos(ordinary())
	was, _ := expectTruth(t, "as it was", s, l)
	for n, disk := range was.Disks {
		for _, held := range disk.Blocks {
			for at := range held.Bytes {
				for _, by := range []byte{1, 128, 255} {
					d := spoil(n, held.Segment, at, by)
					_, answers := expectTruth(t, "a byte turned", s, append(slices.Clone(l), d, all(0), health(), spoil((n+1)%3, held.Segment, at%12, by), all(0), seen(), health()))
					for k, want := range []api.Answer{done(), events(10, ordinaryEvents()...), number(1), done(), refused(api.ErrLost), refused(api.ErrLost), number(2)} {
						if got := answers[5+k]; !sameAnswer(got, want) {
							t.Errorf("after %v %v comes, not %v", d, got, want)
						}
					}
				}
			}
		}
	}
}
