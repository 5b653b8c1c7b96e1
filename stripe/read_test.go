package stripe_test

import (
	"bytes"
	"slices"
	"testing"

	"spareparts/api"
	"spareparts/block"
	"spareparts/code"
	"spareparts/stripe"
)

// readOf is F2's words for Read.
func readOf(l [][]byte, segment, data int) ([]byte, api.Errno) {
	if data < 1 || data > 8 || len(l) < data || len(l) > data+4 {
		return nil, api.ErrMany
	}
	sizes := map[int]bool{}
	size := 0
	shards := make([][]byte, len(l))
	for number, told := range l {
		if isRight(told, segment, number) {
			b, _ := block.Parse(told)
			size = b.Size
			sizes[size] = true
			shards[number] = b.Data
		}
	}
	if len(sizes) > 1 {
		return nil, api.ErrFit
	}
	all, err := code.Mend(shards, data)
	if err != api.OK {
		return nil, err
	}
	if size > data*len(all[0]) {
		return nil, api.ErrFit
	}
	b := []byte{}
	for at := range size {
		b = append(b, all[at/len(all[0])][at%len(all[0])])
	}
	return b, api.OK
}

// mendOf is F2's words for Mend.
func mendOf(l [][]byte, segment, data int) ([][]byte, api.Errno) {
	b, err := readOf(l, segment, data)
	if err != api.OK {
		return nil, err
	}
	return layOf(b, segment, data, len(l)-data)
}

// expectRead holds an answer of Read against what must come: beside an error no bytes may be told.
func expectRead(t *testing.T, name string, l [][]byte, segment, data int, want []byte, wantErr api.Errno) {
	t.Helper()
	got, err := stripe.Read(l, segment, data)
	if err != wantErr {
		t.Errorf("Read of %s, segment %d, data %d, tells error %d, not %d", name, segment, data, err, wantErr)
	}
	if !bytes.Equal(got, want) {
		t.Errorf("Read of %s, segment %d, data %d, is %v, not %v", name, segment, data, got, want)
	}
}

// expectMend holds an answer of Mend against what must come.
func expectMend(t *testing.T, name string, l [][]byte, segment, data int, want [][]byte, wantErr api.Errno) {
	t.Helper()
	got, err := stripe.Mend(l, segment, data)
	if err != wantErr {
		t.Errorf("Mend of %s, segment %d, data %d, tells error %d, not %d", name, segment, data, err, wantErr)
	}
	if !same(got, want) {
		t.Errorf("Mend of %s, segment %d, data %d, is %v, not %v", name, segment, data, got, want)
	}
}

// expectBoth expects b to be read of l, and all that b is laid as to be mended.
func expectBoth(t *testing.T, name string, l [][]byte, segment, data int, b []byte) {
	t.Helper()
	expectRead(t, name, l, segment, data, b, api.OK)
	expectMend(t, name, l, segment, data, laid(b, segment, data, len(l)-data), api.OK)
}

// expectNeither expects Read and Mend to tell one error, and nothing beside it.
func expectNeither(t *testing.T, name string, l [][]byte, segment, data int, wantErr api.Errno) {
	t.Helper()
	expectRead(t, name, l, segment, data, nil, wantErr)
	expectMend(t, name, l, segment, data, nil, wantErr)
}

func TestF2ChosenBlocks(t *testing.T) {
	whole := [][]byte{bytesOf(3, 0, 3, 1, 2), bytesOf(3, 1, 3, 3, 0), bytesOf(3, 2, 3, 143, 1)}
	for number := range whole {
		l := with(whole, number, nil)
		expectRead(t, "three bytes over two shards", l, 3, 2, []byte{1, 2, 3}, api.OK)
		expectMend(t, "three bytes over two shards", l, 3, 2, whole, api.OK)
	}
	expectRead(t, "a byte", [][]byte{bytesOf(0, 0, 1, 9)}, 0, 1, []byte{9}, api.OK)
	expectRead(t, "no byte", [][]byte{bytesOf(0, 0, 0, 9)}, 0, 1, nil, api.OK)
	// Noughts that were laid are read, those that only fill a shard are not.
	expectBoth(t, "noughts", laid([]byte{0, 0, 0}, 1, 2, 1), 1, 2, []byte{0, 0, 0})
}

func TestF2WhatIsLaidIsRead(t *testing.T) {
	codes(func(data, spare int) {
		for _, length := range lengths(data) {
			b := mixed(length, uint32(data*13+spare))
			segment := goodSegments[(data+length)%len(goodSegments)]
			l, err := stripe.Lay(b, segment, data, spare)
			if err != api.OK {
				t.Fatalf("Lay tells error %d", err)
			}
			expectRead(t, "what was laid", l, segment, data, b, api.OK)
			expectMend(t, "what was laid", l, segment, data, l, api.OK)
		}
	})
}

// wronged is l with those spoilt whose bits the mask has, in ways that take turns from way on.
func wronged(l [][]byte, mask, way int) [][]byte {
	left := slices.Clone(l)
	for number, told := range l {
		if mask>>number&1 == 0 {
			continue
		}
		other := bytes.Clone(told[:len(told)-4])
		other[1]++ // of another segment, with a right sum
		placed := bytes.Clone(told[:len(told)-4])
		placed[2]++ // of another place, with a right sum
		left[number] = [][]byte{
			nil, turned(told, 7, 1), told[:len(told)-1], append(bytes.Clone(told), 0), withSum(other), withSum(placed), turned(told, len(told)-1, 128), turned(told, 4, 1), {},
		}[(number+way)%9]
	}
	return left
}

func count(mask int) int {
	ones := 0
	for ; mask > 0; mask >>= 1 {
		ones += mask & 1
	}
	return ones
}

// Whichever are gone or spoilt: as many as are spare, and all is read and as it was laid; one more, and it is lost.
func TestF2WhicheverAreGoneOrSpoilt(t *testing.T) {
	codes(func(data, spare int) {
		b := mixed(2*data-data/2, uint32(data*7+spare))
		segment := spare % 2 * 9
		all := laid(b, segment, data, spare)
		for mask := range 1 << len(all) {
			for _, l := range [][][]byte{wronged(all, mask, 0), wronged(all, mask, 1+mask%8)} {
				got, err := stripe.Read(l, segment, data)
				mended, mendErr := stripe.Mend(l, segment, data)
				if count(mask) > spare {
					if err != api.ErrLost || mendErr != api.ErrLost || len(got) > 0 || len(mended) > 0 {
						t.Fatalf("of %d and %d shards %b are wrong: errors %d, %d, beside %v, %v", data, spare, mask, err, mendErr, got, mended)
					}
				} else if err != api.OK || mendErr != api.OK || !bytes.Equal(got, b) || !same(mended, all) {
					t.Fatalf("of %d and %d shards %b are wrong: errors %d, %d, beside %v, %v", data, spare, mask, err, mendErr, got, mended)
				}
			}
		}
	})
}

func TestF2TheMostThatCanBeLaid(t *testing.T) {
	for _, data := range []int{1, 3, api.MaxData} {
		b := mixed(data*api.MaxShard, 5)
		all := laid(b, 39, data, api.MaxSpare)
		expectBoth(t, "the first ones gone", wronged(all, 15, 0), 39, data, b)
		expectBoth(t, "the last ones spoilt", wronged(all, 15<<data, 1), 39, data, b)
		expectNeither(t, "one more gone", wronged(all, 31, 0), 39, data, api.ErrLost)
	}
}

func TestF2OfTooFewOrTooMany(t *testing.T) {
	whole := laid(mixed(12, 6), 5, 8, 4)
	for shards := range 15 {
		lists := [][][]byte{make([][]byte, shards), slices.Concat(whole, whole)[:shards]}
		uneven := [][]byte{}
		for number := range shards {
			uneven = append(uneven, bytesOf(5, number, number, mixed(number+1, 1)...))
		}
		// That sizes and lengths differ, or that it is lost, is told later.
		for _, l := range append(lists, uneven) {
			for _, data := range numbers {
				if data >= 1 && data <= 8 && shards >= data && shards <= data+4 {
					continue
				}
				for _, segment := range []int{-1, 5, 40} {
					expectNeither(t, "too few or too many", l, segment, data, api.ErrMany)
				}
			}
		}
	}
	expectNeither(t, "nil", nil, 0, 0, api.ErrMany)
	expectNeither(t, "nil", nil, 0, 1, api.ErrMany)
	expectNeither(t, "far too many", make([][]byte, 100000), 0, 8, api.ErrMany)
}

// As many data as the document allows for a number of blocks, and no more: the edges one by one.
func TestF2HowManyDataTheBlocksMayHave(t *testing.T) {
	for _, c := range []struct {
		shards, data int
		want         api.Errno
	}{
		{1, 0, api.ErrMany}, {1, 1, api.OK}, {1, 2, api.ErrMany},
		{4, 4, api.OK}, {4, 5, api.ErrMany}, {5, 1, api.OK}, {6, 1, api.ErrMany}, {6, 2, api.OK},
		{8, 8, api.OK}, {7, 8, api.ErrMany}, {9, 9, api.ErrMany}, {12, 8, api.OK}, {12, 7, api.ErrMany},
		{13, 8, api.ErrMany}, {13, 9, api.ErrMany},
	} {
		l := [][]byte{}
		for number := range c.shards {
			l = append(l, bytesOf(0, number, 0, 0))
		}
		if _, err := stripe.Read(l, 0, c.data); err != c.want {
			t.Errorf("Read of %d blocks, %d of them data, tells error %d", c.shards, c.data, err)
		}
		if _, err := stripe.Mend(l, 0, c.data); err != c.want {
			t.Errorf("Mend of %d blocks, %d of them data, tells error %d", c.shards, c.data, err)
		}
	}
}

// resized is a block's bytes with another size, and a right sum.
func resized(told []byte, size int) []byte {
	told = bytes.Clone(told[:len(told)-4])
	told[3], told[4] = byte(size/256), byte(size%256)
	return withSum(told)
}

func TestF2OfSizesThatAreNotTheSame(t *testing.T) {
	b := mixed(10, 7)
	codes(func(data, spare int) {
		all := laid(b, 5, data, spare)
		if len(all) == 1 {
			return
		}
		for number, told := range all {
			for _, size := range []int{0, 9, 11, 10 + 256, 3200} {
				other := resized(told, size)
				l := with(all, number, other)
				expectNeither(t, "blocks, one of another size", l, 5, data, api.ErrFit)
				// Two are enough for it, and it is told ahead of what is lost.
				pair := with(with(make([][]byte, len(all)), number, other), (number+1)%len(all), all[(number+1)%len(all)])
				expectNeither(t, "two blocks of two sizes", pair, 5, data, api.ErrFit)
			}
		}
	})
}

func TestF2TheSizesOfWrongBlocksSayNothing(t *testing.T) {
	b := mixed(10, 8)
	all := laid(b, 5, 3, 2)
	longer := laid(mixed(50, 8), 5, 3, 2)
	elsewhere := laid(mixed(50, 8), 6, 3, 2)
	for number, told := range all {
		other := (number + 1) % len(all)
		expectBoth(t, "one spoilt, of another size", with(all, number, turned(told, 3, 1)), 5, 3, b)
		expectBoth(t, "one of another segment and size", with(all, number, elsewhere[number]), 5, 3, b)
		expectBoth(t, "one of another place and size", with(all, number, longer[other]), 5, 3, b)
		expectBoth(t, "one with a size that is none", with(all, number, resized(told, 3201)), 5, 3, b)
		expectNeither(t, "one of another length and size", with(all, number, longer[number]), 5, 3, api.ErrFit)
	}
}

// unlike is blocks of one size, each with data of its own length; where that is 0, it is gone.
func unlike(size int, lengths ...int) [][]byte {
	l := [][]byte{}
	for number, length := range lengths {
		if length == 0 {
			l = append(l, nil)
		} else {
			l = append(l, bytesOf(5, number, size, mixed(length, 9)...))
		}
	}
	return l
}

func TestF2OfShardsOfSeveralLengths(t *testing.T) {
	for _, c := range []struct {
		name string
		l    [][]byte
		data int
		want api.Errno
	}{
		{"two of data", unlike(3, 2, 3), 2, api.ErrForm},
		{"the last spare one shorter, and not needed", unlike(3, 2, 2, 2, 1), 2, api.ErrForm},
		{"the last spare one longer, and not needed", unlike(3, 2, 2, 2, 3), 2, api.ErrForm},
		{"the first one longer", unlike(3, 3, 2, 2, 2), 1, api.ErrForm},
		{"behind one that is gone", unlike(3, 0, 2, 0, 2, 3), 2, api.ErrForm},
		{"the longest and the shortest", unlike(1, 400, 1), 1, api.ErrForm},
		// What is lost is told ahead of it, and a size that is too great behind it.
		{"too few", unlike(3, 0, 2, 3, 0), 3, api.ErrLost},
		{"a size that is too great", unlike(3200, 2, 3), 1, api.ErrForm},
		{"too few, and a size that is too great", unlike(3200, 2, 3, 0), 3, api.ErrLost},
	} {
		expectNeither(t, c.name, c.l, 5, c.data, c.want)
	}
}

// Size may be as great as all shards of data are, and anything below it, whether the shards are the shortest ones for it or not.
func TestF2OfASizeThatIsMoreThanAllHave(t *testing.T) {
	codes(func(data, spare int) {
		for _, length := range []int{1, 2, 5} {
			whole := mixed(data*length, uint32(data*length))
			all := laid(whole, 8, data, spare)
			for size := range data*length + 5 {
				l := [][]byte{}
				for _, told := range all {
					l = append(l, resized(told, size))
				}
				for _, left := range [][][]byte{l, wronged(l, 1<<spare-1, size), wronged(l, (1<<spare-1)<<data, size)} {
					if size > data*length {
						expectNeither(t, "a size that is too great", left, 8, data, api.ErrFit)
					} else {
						expectBoth(t, "a size that is not too great", left, 8, data, whole[:size])
					}
				}
			}
		}
	})
}

func TestF2OfTheGreatestSizes(t *testing.T) {
	for data := 1; data <= api.MaxData; data++ {
		most := data * api.MaxShard
		b := mixed(most, 3)
		all := laid(b, 0, data, 1)
		expectBoth(t, "the most", with(all, 0, nil), 0, data, b)
		if data == api.MaxData {
			continue
		}
		l := [][]byte{}
		for _, told := range all {
			l = append(l, resized(told, most+1))
		}
		expectNeither(t, "one more than the most", l, 0, data, api.ErrFit)
	}
}

func TestF2TellsTheFirstErrorThatFits(t *testing.T) {
	for _, c := range []struct {
		name    string
		l       [][]byte
		segment int
		data    int
		want    api.Errno
	}{
		{"too many, of two sizes", [][]byte{bytesOf(0, 0, 1, 1), bytesOf(0, 1, 2, 1)}, 0, 3, api.ErrMany},
		{"two sizes, and lost", [][]byte{bytesOf(0, 0, 1, 1), bytesOf(0, 1, 2, 1), nil}, 0, 3, api.ErrFit},
		{"two sizes, and two lengths", [][]byte{bytesOf(0, 0, 1, 1), bytesOf(0, 1, 2, 1, 1)}, 0, 1, api.ErrFit},
		{"lost, and two lengths", [][]byte{bytesOf(0, 0, 2, 1), bytesOf(0, 1, 2, 1, 1), nil}, 0, 3, api.ErrLost},
		{"lost, and a size too great", [][]byte{bytesOf(0, 0, 9, 1), nil}, 0, 2, api.ErrLost},
		{"two lengths, and a size too great", [][]byte{bytesOf(0, 0, 9, 1), bytesOf(0, 1, 9, 1, 1)}, 0, 2, api.ErrForm},
		{"a size too great", [][]byte{bytesOf(0, 0, 9, 1), bytesOf(0, 1, 9, 1)}, 0, 2, api.ErrFit},
		{"all of another segment, of two sizes", [][]byte{bytesOf(0, 0, 1, 1), bytesOf(0, 1, 2, 1)}, 1, 1, api.ErrLost},
	} {
		expectNeither(t, c.name, c.l, c.segment, c.data, c.want)
	}
}

// No block is a right one of a segment that is none, so all are gone: that is told ahead of what Lay would say.
func TestF2OfNoSegment(t *testing.T) {
	for _, segment := range noSegments {
		codes(func(data, spare int) {
			named := [][]byte{}
			for number := range data + spare {
				named = append(named, bytesOf(segment, number, 1, 7))
			}
			expectNeither(t, "blocks that name the segment", named, segment, data, api.ErrLost)
			expectNeither(t, "blocks of another one", laid([]byte{1}, 5, data, spare), segment, data, api.ErrLost)
			expectNeither(t, "no blocks", make([][]byte, data+spare), segment, data, api.ErrLost)
		})
		expectNeither(t, "too few", nil, segment, 1, api.ErrMany)
	}
}

// Of right blocks that don't go together the first ones that are enough are believed, and all are laid of what they tell.
func TestF2OfRightBlocksThatDontGoTogether(t *testing.T) {
	codes(func(data, spare int) {
		strange := [][]byte{}
		for number := range data + spare {
			strange = append(strange, bytesOf(4, number, data*3-1, mixed(3, uint32(number*77+data))...))
		}
		for mask := range 1 << len(strange) {
			if mask%5 != 0 || count(mask) > spare {
				continue
			}
			l := wronged(strange, mask, mask)
			b, err := readOf(l, 4, data)
			if err != api.OK {
				t.Fatalf("the words of F2 tell error %d", err)
			}
			expectBoth(t, "strange blocks", l, 4, data, b)
		}
	})
	// A strange spare one behind enough others is made anew; a strange first one is believed.
	all := laid([]byte{1, 2}, 0, 2, 2)
	expectBoth(t, "a strange spare one", with(all, 3, bytesOf(0, 3, 2, 200)), 0, 2, []byte{1, 2})
	expectBoth(t, "a strange first one", with(all, 0, bytesOf(0, 0, 2, 200)), 0, 2, []byte{200, 2})
}

// What is mended has shards as short as they may be, also where those that it is mended of are longer.
func TestF2WhatIsMendedIsLaidAnew(t *testing.T) {
	long := [][]byte{bytesOf(1, 0, 3, 1, 2, 3, 4), bytesOf(1, 1, 3, 5, 6, 7, 8)}
	expectRead(t, "shards that are too long", long, 1, 2, []byte{1, 2, 3}, api.OK)
	expectMend(t, "shards that are too long", long, 1, 2, [][]byte{bytesOf(1, 0, 3, 1, 2), bytesOf(1, 1, 3, 3, 0)}, api.OK)
	none := [][]byte{bytesOf(1, 0, 0, 1, 2), bytesOf(1, 1, 0, 1, 2), nil}
	expectMend(t, "shards of no bytes", none, 1, 2, [][]byte{bytesOf(1, 0, 0, 0), bytesOf(1, 1, 0, 0), bytesOf(1, 2, 0, 0)}, api.OK)
}
