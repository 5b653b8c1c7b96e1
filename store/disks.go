package store

import (
	"cmp"
	"slices"

	"spareparts/api"
	"spareparts/stripe"
)

// change does something to disk n, if there is one.
func (s *running) change(n int, by func(disk *api.Disk) api.Errno) api.Answer {
	if n < 0 || n >= len(s.Disks) {
		return api.Answer{Err: api.ErrNone}
	}
	return api.Answer{Err: by(&s.Disks[n])}
}

func lose(disk *api.Disk) api.Errno {
	if disk.Gone {
		return api.ErrFit
	}
	*disk = api.Disk{Gone: true}
	return api.OK
}

func swap(disk *api.Disk) api.Errno {
	*disk = api.Disk{}
	return api.OK
}

// spoil turns a byte of the disk's block of that segment.
func spoil(disk *api.Disk, segment, at int, by byte) api.Errno {
	number, there := find(disk.Blocks, segment)
	if !there {
		return api.ErrNone
	}
	told := disk.Blocks[number].Bytes
	if at < 0 || at >= len(told) {
		return api.ErrRange
	}
	told[at] ^= by
	return api.OK
}

// scrub mends each segment that can be mended, and tells how many blocks of those were bad,
// and why the first one could not be.
func (s *running) scrub() api.Answer {
	var answer api.Answer
	for segment := range s.Segments {
		blocks := s.blocks(segment)
		bad := stripe.Bad(blocks, segment)
		if len(bad) == 0 {
			continue
		}
		mended, err := stripe.Mend(blocks, segment, s.Setup.Data)
		if err != api.OK {
			answer.Err = cmp.Or(answer.Err, err)
			continue
		}
		s.hold(segment, mended)
		answer.N += s.there(bad)
	}
	return answer
}

// health is how many blocks of all segments are bad, those of disks that are gone too.
func (s *running) health() int {
	bad := 0
	for segment := range s.Segments {
		bad += len(stripe.Bad(s.blocks(segment), segment))
	}
	return bad
}

// blocks is what the disks have of a segment, one after the other; a disk that is gone has nothing.
func (s *running) blocks(segment int) [][]byte {
	l := make([][]byte, len(s.Disks))
	for number, disk := range s.Disks {
		if at, there := find(disk.Blocks, segment); there {
			l[number] = disk.Blocks[at].Bytes
		}
	}
	return l
}

// hold has each disk that is there have its block of a segment, in place of what it had of that.
func (s *running) hold(segment int, blocks [][]byte) {
	for number := range s.Disks {
		disk := &s.Disks[number]
		if disk.Gone {
			continue
		}
		at, there := find(disk.Blocks, segment)
		if !there {
			disk.Blocks = slices.Insert(disk.Blocks, at, api.Held{Segment: segment})
		}
		disk.Blocks[at].Bytes = blocks[number]
	}
}

// there is how many of the disks of these numbers aren't gone.
func (s *running) there(numbers []int) int {
	count := 0
	for _, number := range numbers {
		if !s.Disks[number].Gone {
			count++
		}
	}
	return count
}

// find is where the block of a segment is, or belongs, among blocks that rise by segments.
func find(blocks []api.Held, segment int) (int, bool) {
	return slices.BinarySearchFunc(blocks, segment, func(h api.Held, segment int) int {
		return cmp.Compare(h.Segment, segment)
	})
}
