package block_test

import (
	"bytes"
	"hash/crc32"
	"math"
	"slices"
	"testing"

	"spareparts/api"
	"spareparts/block"
)

// mixed is bytes without a plain rule, the same ones for the same seed.
func mixed(length int, seed uint32) []byte {
	b := make([]byte, length)
	for k := range b {
		seed = seed*1664525 + 1013904223
		b[k] = byte(seed >> 24)
	}
	return b
}

// blockOf is a block of Data of so many bytes.
func blockOf(segment, shard, size, length int) api.Block {
	return api.Block{Segment: segment, Shard: shard, Size: size, Data: mixed(length, uint32(segment*31+shard*7+size))}
}

// slowSum is the sum by the polynomial's bits from the highest one down, by long division:
// all bytes are turned round, the first 32 bits are turned, and what remains is turned and turned round.
func slowSum(b []byte) uint32 {
	bits := []int{}
	for _, one := range b {
		for k := range 8 {
			bits = append(bits, int(one>>k&1))
		}
	}
	bits = append(bits, make([]int, 32)...)
	for k := range 32 {
		bits[k] ^= 1
	}
	// 0x82f63b78 with its bits the other way round.
	const high = 0x1edc6f41
	for k := range len(b) * 8 {
		if bits[k] == 1 {
			for place := range 32 {
				bits[k+1+place] ^= high >> (31 - place) & 1
			}
		}
	}
	sum := uint32(0)
	for k, bit := range bits[len(b)*8:] {
		sum |= uint32(bit^1) << k
	}
	return sum
}

// withSum is the bytes with the sum behind them that they must have.
func withSum(b []byte) []byte {
	sum := crc32.Checksum(b, crc32.MakeTable(crc32.Castagnoli))
	return slices.Concat(b, []byte{byte(sum), byte(sum >> 8), byte(sum >> 16), byte(sum >> 24)})
}

// bytesOf is D1's words for the bytes of a block, whatever is wrong with it.
func bytesOf(b api.Block) []byte {
	head := []byte{
		83,
		byte(b.Segment),
		byte(b.Shard),
		byte(b.Size / 256), byte(b.Size % 256),
		byte(len(b.Data) / 256), byte(len(b.Data) % 256),
	}
	return withSum(slices.Concat(head, b.Data))
}

// wrongOf is D1's words for Wrong.
func wrongOf(b api.Block) api.Errno {
	segment := b.Segment >= 0 && b.Segment < 40
	shard := b.Shard >= 0 && b.Shard < 12
	size := b.Size >= 0 && b.Size <= 3200
	if !(segment && shard && size) {
		return api.ErrRange
	}
	if len(b.Data) == 0 || len(b.Data) > 400 {
		return api.ErrMany
	}
	return api.OK
}

// slowParse is D1's words for Parse.
func slowParse(b []byte) (api.Block, api.Errno) {
	if len(b) < 12 || b[0] != 83 || len(b)-11 != int(b[5])*256+int(b[6]) {
		return api.Block{}, api.ErrForm
	}
	told := b[:len(b)-4]
	if !bytes.Equal(withSum(told), b) {
		return api.Block{}, api.ErrSum
	}
	is := api.Block{Segment: int(b[1]), Shard: int(b[2]), Size: int(b[3])*256 + int(b[4]), Data: told[7:]}
	if err := wrongOf(is); err != api.OK {
		return api.Block{}, err
	}
	return is, api.OK
}

func same(a, b api.Block) bool {
	return a.Segment == b.Segment && a.Shard == b.Shard && a.Size == b.Size && bytes.Equal(a.Data, b.Data)
}

func expectWrong(t *testing.T, name string, b api.Block, want api.Errno) {
	t.Helper()
	if got := block.Wrong(b); got != want {
		t.Errorf("Wrong of %s is %d, not %d", name, got, want)
	}
}

// expectBytes holds an answer of Bytes against what must come: beside an error no bytes may be told.
func expectBytes(t *testing.T, name string, b api.Block, want []byte, wantErr api.Errno) {
	t.Helper()
	got, err := block.Bytes(b)
	if err != wantErr {
		t.Errorf("Bytes of %s tells error %d, not %d", name, err, wantErr)
	}
	if !bytes.Equal(got, want) {
		t.Errorf("Bytes of %s is %v, not %v", name, got, want)
	}
}

// expectParse holds an answer of Parse against what must come.
func expectParse(t *testing.T, name string, b []byte, want api.Block, wantErr api.Errno) {
	t.Helper()
	got, err := block.Parse(b)
	if err != wantErr {
		t.Errorf("Parse of %s tells error %d, not %d", name, err, wantErr)
	}
	if !same(got, want) {
		t.Errorf("Parse of %s is %v, not %v", name, got, want)
	}
}

// expectNoBlock is that Parse tells the error, and a block of which everything is zero.
func expectNoBlock(t *testing.T, name string, b []byte, wantErr api.Errno) {
	t.Helper()
	expectParse(t, name, b, api.Block{}, wantErr)
}

// numbers are those around what Segment, Shard and Size may be, those of which
// the lowest bits alone would be right, and the ends of int.
var numbers = []int{
	math.MinInt, math.MinInt + 1, -1 << 32, -65536, -3200, -256, -40, -12, -2, -1,
	0, 1, 2, 10, 11, 12, 13, 38, 39, 40, 41, 127, 128, 255, 256, 257, 3199, 3200, 3201, 3202,
	65535, 65536, 65537, 1 << 32, 1<<32 + 1, math.MaxInt - 1, math.MaxInt,
}

// lengths are those around what Data may have.
var lengths = []int{0, 1, 2, 255, 256, 257, 399, 400, 401, 402, 655, 656, 657, 65535, 65536, 65537}

// good are blocks with which nothing is wrong: all edges, and some between them.
func good() []api.Block {
	l := []api.Block{}
	for _, segment := range []int{0, 1, 17, 39} {
		for _, shard := range []int{0, 1, 7, 8, 11} {
			for _, size := range []int{0, 1, 255, 256, 257, 3199, 3200} {
				for _, length := range []int{1, 2, 3, 255, 256, 257, 399, 400} {
					l = append(l, blockOf(segment, shard, size, length))
				}
			}
		}
	}
	return l
}

func TestD1SumOfChosenBytes(t *testing.T) {
	rising := []byte{}
	for k := range 32 {
		rising = append(rising, byte(k))
	}
	falling := slices.Clone(rising)
	slices.Reverse(falling)
	for _, c := range []struct {
		name string
		b    []byte
		want uint32
	}{
		{"nil", nil, 0},
		{"no bytes", []byte{}, 0},
		{"a nought", []byte{0}, 0x527d5351},
		{"a one", []byte{1}, 0xa016d052},
		{"the greatest byte", []byte{255}, 0xff000000},
		{"the letter a", []byte("a"), 0xc1d04330},
		{"two bytes", []byte("ab"), 0xe2a22936},
		{"two bytes exchanged", []byte("ba"), 0xc515725b},
		{"nine digits", []byte("123456789"), 0xe3069283},
		{"32 noughts", make([]byte, 32), 0x8a9136aa},
		{"32 greatest bytes", bytes.Repeat([]byte{255}, 32), 0x62a8ab43},
		{"32 bytes, rising", rising, 0x46dd794e},
		{"32 bytes, falling", falling, 0x113fdb5c},
	} {
		if got := block.Sum(c.b); got != c.want {
			t.Errorf("Sum of %s is %#x, not %#x", c.name, got, c.want)
		}
	}
}

func TestD1SumOfAllShortAndSomeLongBytes(t *testing.T) {
	check := func(b []byte) {
		t.Helper()
		if got, want := block.Sum(b), slowSum(b); got != want {
			t.Errorf("Sum of %v is %#x, not %#x", b, got, want)
		}
	}
	for one := range 256 {
		check([]byte{byte(one)})
		check([]byte{byte(one), 0})
		check([]byte{0, byte(one)})
		check([]byte{byte(one), byte(one ^ 255), byte(one)})
	}
	for length := range 70 {
		check(mixed(length, uint32(length)))
		check(make([]byte, length))
	}
	for _, length := range []int{407, 411, 1000, 4096} {
		check(mixed(length, 5))
	}
	table := crc32.MakeTable(crc32.Castagnoli)
	for _, length := range []int{65535, 65536, 100003} {
		b := mixed(length, 6)
		if got, want := block.Sum(b), crc32.Checksum(b, table); got != want {
			t.Errorf("Sum of %d bytes is %#x, not %#x", length, got, want)
		}
	}
}

func TestD1WrongOfTheEdges(t *testing.T) {
	for _, c := range []struct {
		name                         string
		segment, shard, size, length int
		want                         api.Errno
	}{
		{"noughts and a byte", 0, 0, 0, 1, api.OK},
		{"the greatest of all", api.MaxSegment - 1, api.MaxData + api.MaxSpare - 1, api.MaxData * api.MaxShard, api.MaxShard, api.OK},
		{"a Segment below 0", -1, 0, 0, 1, api.ErrRange},
		{"the greatest Segment", 39, 0, 0, 1, api.OK},
		{"a Segment too great", 40, 0, 0, 1, api.ErrRange},
		{"a Shard below 0", 0, -1, 0, 1, api.ErrRange},
		{"the greatest Shard", 0, 11, 0, 1, api.OK},
		{"a Shard too great", 0, 12, 0, 1, api.ErrRange},
		{"a Size below 0", 0, 0, -1, 1, api.ErrRange},
		{"the greatest Size", 0, 0, 3200, 1, api.OK},
		{"a Size too great", 0, 0, 3201, 1, api.ErrRange},
		{"Data of no bytes", 0, 0, 0, 0, api.ErrMany},
		{"Data of MaxShard bytes", 0, 0, 0, 400, api.OK},
		{"Data of one byte more", 0, 0, 0, 401, api.ErrMany},
		{"a Size of more than Data has", 3, 2, 300, 1, api.OK},
		{"a Size of less than Data has", 3, 2, 1, 300, api.OK},
		// Where both fit, that a number is out of range is told.
		{"a wrong Segment, and no Data", 40, 0, 0, 0, api.ErrRange},
		{"a wrong Shard, and no Data", 0, 12, 0, 0, api.ErrRange},
		{"a wrong Size, and no Data", 0, 0, 3201, 0, api.ErrRange},
		{"a wrong Segment, and Data too long", -1, 0, 0, 401, api.ErrRange},
		{"a wrong Shard, and Data too long", 0, -1, 0, 401, api.ErrRange},
		{"a wrong Size, and Data too long", 0, 0, -1, 401, api.ErrRange},
	} {
		b := blockOf(c.segment, c.shard, c.size, c.length)
		expectWrong(t, c.name, b, c.want)
		if c.want == api.OK {
			expectBytes(t, c.name, b, bytesOf(b), api.OK)
		} else {
			expectBytes(t, c.name, b, nil, c.want)
		}
	}
	expectWrong(t, "the zero block", api.Block{}, api.ErrMany)
	expectBytes(t, "the zero block", api.Block{}, nil, api.ErrMany)
}

func TestD1BytesOfChosenBlocks(t *testing.T) {
	for _, c := range []struct {
		name string
		b    api.Block
		want []byte
	}{
		{"the least block", api.Block{Data: []byte{0}}, []byte{83, 0, 0, 0, 0, 0, 1, 0, 18, 111, 184, 218}},
		{
			"the greatest numbers",
			api.Block{Segment: 39, Shard: 11, Size: 3200, Data: []byte{0, 0, 0}},
			[]byte{83, 39, 11, 12, 128, 0, 3, 0, 0, 0, 129, 5, 158, 42},
		},
	} {
		expectBytes(t, c.name, c.b, c.want, api.OK)
		expectParse(t, c.name, c.want, c.b, api.OK)
	}
}

// The document's fourth example.
func TestD1ABlockOfTwoBytesHasThirteen(t *testing.T) {
	got, err := block.Bytes(api.Block{Data: []byte{4, 5}})
	if len(got) != 13 || err != api.OK {
		t.Errorf("a block of two bytes has %d, and tells error %d", len(got), err)
	}
}

func TestD1WhereTheNumbersStand(t *testing.T) {
	b := api.Block{Segment: 0x21, Shard: 0x0a, Size: 0x0b0c, Data: mixed(0x0102, 8)}
	got, err := block.Bytes(b)
	if err != api.OK || len(got) != 0x0102+11 {
		t.Fatalf("Bytes has %d bytes, and tells error %d", len(got), err)
	}
	if head := []byte{'S', 0x21, 0x0a, 0x0b, 0x0c, 0x01, 0x02}; !bytes.Equal(got[:7], head) {
		t.Errorf("ahead of Data stands %v, not %v", got[:7], head)
	}
	end := len(got) - 4
	if !bytes.Equal(got[7:end], b.Data) {
		t.Errorf("as Data stands %v, not %v", got[7:end], b.Data)
	}
	sum := slowSum(got[:end])
	for k, one := range got[end:] {
		if want := byte(sum >> (8 * k)); one != want {
			t.Errorf("byte %d of the Sum is %d, not %d", k, one, want)
		}
	}
}

func TestD1WhatIsWrittenIsRead(t *testing.T) {
	for _, b := range good() {
		want := bytesOf(b)
		expectWrong(t, "a good block", b, api.OK)
		expectBytes(t, "a good block", b, want, api.OK)
		expectParse(t, "a good block's bytes", want, b, api.OK)
	}
}

func TestD1AllNumbersThatABlockMayHave(t *testing.T) {
	check := func(segment, shard, size, length int) {
		t.Helper()
		b := blockOf(segment, shard, size, length)
		expectBytes(t, "a good block", b, bytesOf(b), api.OK)
		expectParse(t, "a good block's bytes", bytesOf(b), b, api.OK)
	}
	for segment := range api.MaxSegment {
		for shard := range api.MaxData + api.MaxSpare {
			check(segment, shard, segment*80+shard, 2)
		}
	}
	for size := range api.MaxData*api.MaxShard + 1 {
		check(size%api.MaxSegment, size%12, size, 1)
	}
	for length := 1; length <= api.MaxShard; length++ {
		check(5, 6, 3200-length, length)
	}
}

func TestD1AllBytesOfData(t *testing.T) {
	for one := range 256 {
		b := api.Block{Segment: 1, Shard: 2, Size: 3, Data: []byte{byte(one), 'S', byte(one)}}
		expectBytes(t, "a block of such bytes", b, bytesOf(b), api.OK)
		expectParse(t, "a block of such bytes", bytesOf(b), b, api.OK)
	}
}

func TestD1OfAllNumbersAndLengths(t *testing.T) {
	check := func(b api.Block) {
		t.Helper()
		want := wrongOf(b)
		expectWrong(t, "a block", b, want)
		if want == api.OK {
			expectBytes(t, "a block", b, bytesOf(b), api.OK)
		} else {
			expectBytes(t, "a wrong block", b, nil, want)
		}
	}
	for _, length := range lengths {
		data := mixed(length, 9)
		for _, n := range numbers {
			check(api.Block{Segment: n, Data: data})
			check(api.Block{Shard: n, Data: data})
			check(api.Block{Size: n, Data: data})
		}
	}
	for _, segment := range numbers {
		for _, shard := range numbers {
			for _, size := range numbers {
				check(api.Block{Segment: segment, Shard: shard, Size: size, Data: []byte{7}})
				check(api.Block{Segment: segment, Shard: shard, Size: size})
			}
		}
	}
}

func TestD1ParseOfFewerThanTwelveBytes(t *testing.T) {
	expectNoBlock(t, "nil", nil, api.ErrForm)
	for length := range 12 {
		expectNoBlock(t, "few noughts", make([]byte, length), api.ErrForm)
		expectNoBlock(t, "few marks", bytes.Repeat([]byte{'S'}, length), api.ErrForm)
	}
	// Eleven bytes that tell that Data has none, and have the right Sum.
	expectNoBlock(t, "no Data", bytesOf(api.Block{}), api.ErrForm)
	expectNoBlock(t, "no Data, and wrong numbers", bytesOf(api.Block{Segment: 99, Shard: 99}), api.ErrForm)
	// Twelve bytes that tell so have one too many.
	expectNoBlock(t, "no Data, and a byte more", withSum([]byte{'S', 0, 0, 0, 0, 0, 0, 9}), api.ErrForm)
}

func TestD1ParseOfAnotherFirstByte(t *testing.T) {
	told := bytesOf(blockOf(1, 2, 3, 4))
	told = told[:len(told)-4]
	for first := range 256 {
		told[0] = byte(first)
		if first == 'S' {
			expectParse(t, "the mark", withSum(told), blockOf(1, 2, 3, 4), api.OK)
			continue
		}
		expectNoBlock(t, "another first byte, its Sum right", withSum(told), api.ErrForm)
		expectNoBlock(t, "another first byte, its Sum wrong", slices.Concat(told, []byte{0, 0, 0, 0}), api.ErrForm)
	}
}

func TestD1ParseOfBytesCutShortOrMadeLonger(t *testing.T) {
	for _, length := range []int{1, 2, 5, 256, 400} {
		whole := bytesOf(blockOf(6, 7, 800, length))
		end := len(whole) - 4
		for k := range whole {
			expectNoBlock(t, "a beginning", whole[:k], api.ErrForm)
			expectNoBlock(t, "an end", whole[k+1:], api.ErrForm)
			expectNoBlock(t, "all bytes but one", slices.Concat(whole[:k], whole[k+1:]), api.ErrForm)
			// That the Sum is right again does not help.
			if k != end {
				expectNoBlock(t, "a beginning with its Sum", withSum(whole[:k]), api.ErrForm)
			}
		}
		for _, more := range []int{1, 2, 4, 256, 65536} {
			room := make([]byte, more)
			expectNoBlock(t, "bytes made longer", slices.Concat(whole, room), api.ErrForm)
			expectNoBlock(t, "bytes made longer ahead", slices.Concat(room, whole), api.ErrForm)
			expectNoBlock(t, "bytes made longer with their Sum", withSum(slices.Concat(whole[:end], room)), api.ErrForm)
		}
		expectNoBlock(t, "a block twice", slices.Concat(whole, whole), api.ErrForm)
	}
}

func TestD1ParseOfAByteTurnedAtEachPlace(t *testing.T) {
	for _, c := range []struct{ length, step int }{{1, 1}, {2, 1}, {3, 1}, {256, 37}, {400, 51}} {
		whole := bytesOf(blockOf(8, 9, 1000, c.length))
		for at := range whole {
			// The mark, and how many bytes Data has, are of the form.
			want := api.ErrSum
			if at == 0 || at == 5 || at == 6 {
				want = api.ErrForm
			}
			for by := 1; by < 256; by += c.step {
				whole[at] ^= byte(by)
				expectNoBlock(t, "bytes of which one is turned", whole, want)
				whole[at] ^= byte(by)
			}
		}
	}
}

func TestD1ParseOfASumThatIsAnotherOne(t *testing.T) {
	whole := bytesOf(blockOf(8, 9, 1000, 5))
	told, sum := whole[:12], whole[12:]
	otherWay := slices.Clone(sum)
	slices.Reverse(otherWay)
	turned := slices.Clone(sum)
	for k := range turned {
		turned[k] ^= 255
	}
	for _, c := range []struct {
		name string
		sum  []byte
	}{
		{"a Sum the other way round", otherWay},
		{"a Sum of which all bits are turned", turned},
		{"a Sum of noughts", make([]byte, 4)},
		{"the Sum of Data alone", withSum(told[7:])[5:]},
		{"the Sum of all but the mark", withSum(told[1:])[11:]},
	} {
		expectNoBlock(t, c.name, slices.Concat(told, c.sum), api.ErrSum)
	}
}

// A Sum that is right does not make a block right: all that the bytes can tell.
func TestD1ParseOfARightSumAndAWrongBlock(t *testing.T) {
	check := func(b api.Block) {
		t.Helper()
		if want := wrongOf(b); want == api.OK {
			expectParse(t, "a good block's bytes", bytesOf(b), b, api.OK)
		} else {
			expectNoBlock(t, "a wrong block's bytes", bytesOf(b), want)
		}
	}
	data := []byte{7}
	for n := range 256 {
		check(api.Block{Segment: n, Data: data})
		check(api.Block{Shard: n, Data: data})
		check(api.Block{Segment: n, Shard: n, Size: n, Data: data})
	}
	for size := range 65536 {
		check(api.Block{Size: size, Data: data})
	}
	for _, length := range lengths {
		if length == 0 || length > 65535 {
			continue
		}
		check(blockOf(0, 0, 0, length))
		check(blockOf(39, 11, 3200, length))
		check(blockOf(40, 0, 0, length))
		check(blockOf(0, 12, 0, length))
		check(blockOf(0, 0, 3201, length))
	}
	for _, c := range []struct {
		name string
		b    api.Block
		want api.Errno
	}{
		{"a Segment too great", blockOf(40, 0, 0, 1), api.ErrRange},
		{"the greatest byte as Segment", blockOf(255, 0, 0, 1), api.ErrRange},
		{"a Shard too great", blockOf(0, 12, 0, 1), api.ErrRange},
		{"the greatest byte as Shard", blockOf(0, 255, 0, 1), api.ErrRange},
		{"a Size too great", blockOf(0, 0, 3201, 1), api.ErrRange},
		{"the greatest bytes as Size", blockOf(0, 0, 65535, 1), api.ErrRange},
		{"Data of a byte too many", blockOf(0, 0, 0, 401), api.ErrMany},
		{"Data of the most bytes that can be told", blockOf(0, 0, 0, 65535), api.ErrMany},
	} {
		expectNoBlock(t, c.name, bytesOf(c.b), c.want)
	}
}

func TestD1ParseTellsTheFirstErrorThatFits(t *testing.T) {
	tooGreat := bytesOf(blockOf(40, 12, 3201, 401))
	tooLong := bytesOf(blockOf(0, 0, 0, 401))
	spoilt := func(b []byte, at int) []byte {
		c := slices.Clone(b)
		c[at] ^= 1
		return c
	}
	last := len(tooGreat) - 1
	expectNoBlock(t, "numbers too great, Data too long", tooGreat, api.ErrRange)
	expectNoBlock(t, "Data too long", tooLong, api.ErrMany)
	expectNoBlock(t, "numbers too great, Data too long, another Sum", spoilt(tooGreat, last), api.ErrSum)
	expectNoBlock(t, "Data too long, another Sum", spoilt(tooLong, last), api.ErrSum)
	expectNoBlock(t, "the same, and another first byte", spoilt(spoilt(tooGreat, last), 0), api.ErrForm)
	expectNoBlock(t, "the same, and another length told", spoilt(spoilt(tooGreat, last), 6), api.ErrForm)
	expectNoBlock(t, "the same, cut short", spoilt(tooGreat, 9)[:last], api.ErrForm)
	expectNoBlock(t, "the same, made longer", append(spoilt(tooGreat, 9), 0), api.ErrForm)
}

// roomy is b with other bytes in the spare room behind it, and a way to see all of them.
func roomy(b []byte, behind byte) ([]byte, func() []byte) {
	whole := slices.Concat(b, bytes.Repeat([]byte{behind}, 20))
	return whole[:len(b)], func() []byte { return bytes.Clone(whole) }
}

func TestD1WhatIsHandedInIsOnlyRead(t *testing.T) {
	is := blockOf(2, 3, 40, 14)
	told := bytesOf(is)
	turned := bytes.Clone(told)
	turned[9] ^= 4
	for _, behind := range []byte{0, 1, 'S', 255} {
		data, allOfData := roomy(is.Data, behind)
		none, allOfNone := roomy(nil, behind)
		whole, allOfWhole := roomy(told, behind)
		spoilt, allOfSpoilt := roomy(turned, behind)
		short, allOfShort := roomy(told[:len(told)-1], behind)
		wrong, allOfWrong := roomy(bytesOf(blockOf(40, 0, 0, 3)), behind)
		look := func() [][]byte {
			return [][]byte{allOfData(), allOfNone(), allOfWhole(), allOfSpoilt(), allOfShort(), allOfWrong()}
		}
		was := look()

		room := api.Block{Segment: 2, Shard: 3, Size: 40, Data: data}
		if got := block.Sum(whole); got != slowSum(told) {
			t.Errorf("Sum of bytes with room is %#x", got)
		}
		expectWrong(t, "a block with room", room, api.OK)
		expectBytes(t, "a block with room", room, told, api.OK)
		expectBytes(t, "a wrong block with room", api.Block{Segment: 40, Data: data}, nil, api.ErrRange)
		expectBytes(t, "no Data, with room", api.Block{Data: none}, nil, api.ErrMany)
		expectParse(t, "bytes with room", whole, is, api.OK)
		expectNoBlock(t, "spoilt bytes with room", spoilt, api.ErrSum)
		expectNoBlock(t, "bytes cut short with room", short, api.ErrForm)
		expectNoBlock(t, "bytes of a wrong block with room", wrong, api.ErrRange)
		expectNoBlock(t, "no bytes, with room", none, api.ErrForm)

		for k, now := range look() {
			if !bytes.Equal(now, was[k]) {
				t.Errorf("list %d was %v, and is %v", k, was[k], now)
			}
		}
	}
	// What a block lacks is not taken from the room behind it.
	for k := range told {
		expectNoBlock(t, "a beginning, with the rest behind it", told[:k:len(told)], api.ErrForm)
	}
}

// spoil writes over everything that the caller of an answer may write over.
func spoil(b []byte) {
	whole := b[:cap(b)]
	for at := range whole {
		whole[at] ^= 255
	}
}

func TestD1WhatIsAnsweredIsNewMemory(t *testing.T) {
	for _, length := range []int{1, 2, 14, 399, 400} {
		is := blockOf(2, 3, 40, length)
		told := bytesOf(is)
		arguments := func() []byte { return slices.Concat(is.Data, told) }
		was := arguments()
		answers := map[string]func() []byte{
			"Bytes": func() []byte { b, _ := block.Bytes(is); return b },
			"Parse": func() []byte { b, _ := block.Parse(told); return b.Data },
		}
		for name, answer := range answers {
			first, second := answer(), answer()
			want := bytes.Clone(first)
			spoil(first)
			if !bytes.Equal(second, want) {
				t.Errorf("%s: what is written into one answer is seen in another", name)
			}
			if !bytes.Equal(arguments(), was) {
				t.Errorf("%s: what is written into an answer is seen in an argument", name)
			}
			if third := answer(); !bytes.Equal(third, want) {
				t.Errorf("%s: what is written into an answer is seen in a later one", name)
			}
		}
	}
}

func TestD1NothingOfAnArgumentIsKept(t *testing.T) {
	is := blockOf(2, 3, 40, 14)
	told := bytesOf(is)
	written, _ := block.Bytes(is)
	read, _ := block.Parse(told)
	want := slices.Concat(written, read.Data)
	spoil(is.Data)
	spoil(told)
	if !bytes.Equal(slices.Concat(written, read.Data), want) {
		t.Error("an answer changes with what was handed in")
	}
}

func TestD1NilAndNoEntriesAreTheSame(t *testing.T) {
	for _, none := range [][]byte{nil, {}, make([]byte, 0, 12), bytesOf(blockOf(0, 0, 0, 1))[:0]} {
		if got := block.Sum(none); got != 0 {
			t.Errorf("Sum of no bytes is %d", got)
		}
		expectNoBlock(t, "no bytes", none, api.ErrForm)
		for _, segment := range []int{-1, 0, 39, 40} {
			b := api.Block{Segment: segment, Data: none}
			want := wrongOf(api.Block{Segment: segment})
			expectWrong(t, "a block of no Data", b, want)
			expectBytes(t, "a block of no Data", b, nil, want)
		}
	}
}

// Z1: whatever bytes Parse is given, it ends, does not panic, and answers what the chapter's order of errors asks.
func TestD1ParseOfAllKindsOfBytes(t *testing.T) {
	check := func(b []byte) {
		t.Helper()
		want, wantErr := slowParse(b)
		expectParse(t, "bytes", b, want, wantErr)
		// Bytes that are read are those of their block.
		if wantErr == api.OK {
			expectBytes(t, "a block that was read", want, b, api.OK)
		}
	}
	for seed := range uint32(20000) {
		b := mixed(int(seed%40), seed)
		check(b)
		if len(b) == 0 {
			continue
		}
		b[0] = 'S'
		check(b)
		if len(b) < 8 {
			continue
		}
		b[5], b[6] = 0, byte(len(b)-11)
		check(b)
		// From eight bytes on, told as many as they are, with their Sum.
		b[6] = byte(len(b) - 7)
		check(withSum(b))
		b[1], b[2], b[3] = b[1]%41, b[2]%13, b[3]%13
		check(withSum(b))
	}
	for _, length := range []int{65545, 65546, 65547, 65548, 1 << 20} {
		b := mixed(length, 11)
		check(b)
		b[0], b[5], b[6] = 'S', 255, 255
		check(b)
		check(withSum(b[:length-4]))
	}
}
