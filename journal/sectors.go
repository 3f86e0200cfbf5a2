package journal

import (
	"slices"

	"backwater/api"
	"backwater/bits"
	"backwater/disk"
)

// The first byte of a sector tells what it is.
const (
	headMark  = 'H'
	firstMark = 'G'
	loadMark  = 'D'
	lastMark  = 'C'
)

// Where the numbers of sectors begin.
const (
	turnAt     = 1
	headSumAt  = 5
	numberAt   = 5
	lastSumAt  = 9
	partsAt    = 9
	lengthAt   = 10
	firstSumAt = 14
	loadAt     = 1
)

const (
	numberSize = 4
	loadSize   = api.SectorSize - loadAt
	longest    = api.MaxGroup * (numberSize + api.MaxPart) // of a load
)

// Need is how many sectors a group needs; 0: it may not be.
func Need(g [][]byte) int {
	if len(g) < 1 || len(g) > api.MaxGroup {
		return 0
	}
	length := 0
	for _, part := range g {
		if len(part) > api.MaxPart {
			return 0
		}
		length += numberSize + len(part)
	}
	return sectorsOf(length)
}

// sectorsOf is how many sectors a group with a load of so many bytes has: its first one, its last one, and those between.
func sectorsOf(length int) int {
	return 2 + (length+loadSize-1)/loadSize
}

// headSector is the head of an area.
func headSector(turn uint32) disk.Sector {
	s := disk.Sector{headMark}
	putNumber(field(&s, turnAt), turn)
	seal(&s, headSumAt)
	return s
}

// firstSector is the first one of a group.
func firstSector(turn, number uint32, parts byte, length uint32) disk.Sector {
	s := disk.Sector{firstMark}
	putNumber(field(&s, turnAt), turn)
	putNumber(field(&s, numberAt), number)
	s[partsAt] = parts
	putNumber(field(&s, lengthAt), length)
	seal(&s, firstSumAt)
	return s
}

// lastSector is the last one of a group.
func lastSector(turn, number uint32) disk.Sector {
	s := disk.Sector{lastMark}
	putNumber(field(&s, turnAt), turn)
	putNumber(field(&s, numberAt), number)
	seal(&s, lastSumAt)
	return s
}

// groupSectors are all sectors of a group that may be.
func groupSectors(g [][]byte, turn, number uint32) []disk.Sector {
	load := loadOf(g)
	run := []disk.Sector{firstSector(turn, number, byte(len(g)), uint32(len(load)))}
	for piece := range slices.Chunk(load, loadSize) {
		s := disk.Sector{loadMark}
		copy(inside(&s), piece)
		run = append(run, s)
	}
	return append(run, lastSector(turn, number))
}

// loadOf are the bytes of a group's load.
func loadOf(g [][]byte) []byte {
	var load []byte
	for _, part := range g {
		var length [numberSize]byte
		putNumber(length[:], uint32(len(part)))
		load = append(load, length[:]...)
		load = append(load, part...)
	}
	return load
}

// readHead is the turn of a head, if it is right.
func readHead(s disk.Sector) (uint32, bool) {
	turn := readNumber(field(&s, turnAt))
	if turn == 0 || s != headSector(turn) {
		return 0, false
	}
	return turn, true
}

// readGroup is the group that sectors begin with, and how many of them it has, if it is right.
func readGroup(sectors []disk.Sector, turn, number uint32) ([][]byte, int, bool) {
	if len(sectors) == 0 {
		return nil, 0, false
	}
	first := sectors[0]
	length := readNumber(field(&first, lengthAt))
	if length > longest || sectorsOf(int(length)) > len(sectors) {
		return nil, 0, false
	}
	size := sectorsOf(int(length))
	g, ok := partsOf(readLoad(sectors[1:size-1], int(length)), int(first[partsAt]))
	// A group can be written in one way only: it is right if it would be written just so.
	if !ok || Need(g) != size || !slices.Equal(groupSectors(g, turn, number), sectors[:size]) {
		return nil, 0, false
	}
	return g, size, true
}

// readLoad are the bytes of a load that lies in sectors.
func readLoad(sectors []disk.Sector, length int) []byte {
	load := make([]byte, 0, len(sectors)*loadSize)
	for _, s := range sectors {
		load = append(load, inside(&s)...)
	}
	return load[:length:length]
}

// partsOf are as many parts as asked for, if they make up the load.
func partsOf(load []byte, count int) ([][]byte, bool) {
	var g [][]byte
	for range count {
		if len(load) < numberSize {
			return nil, false
		}
		length := readNumber(load[:numberSize:numberSize])
		load = load[numberSize:]
		if length > api.MaxPart || int(length) > len(load) {
			return nil, false
		}
		// A copy, so that no part lies in another one's room.
		g = append(g, slices.Clone(load[:length]))
		load = load[length:]
	}
	return g, len(load) == 0
}

// field cuts the bytes of a number out of a sector; the third index keeps it from reaching into what stands behind.
func field(s *disk.Sector, at int) []byte {
	return s[at : at+numberSize : at+numberSize]
}

// inside cuts the bytes of a load out of a sector.
func inside(s *disk.Sector) []byte {
	return s[loadAt:len(s):len(s)]
}

// seal writes the sum of all that stands ahead of a place there.
func seal(s *disk.Sector, at int) {
	putNumber(field(s, at), bits.Fold(s[:at:at]))
}

// putNumber writes a number into all of b, the lowest byte first.
func putNumber(b []byte, n uint32) {
	for i := range b {
		b[i] = byte(n >> (8 * i))
	}
}

// readNumber is the number that all of b stands for, the lowest byte first.
func readNumber(b []byte) uint32 {
	var n uint32
	for i := range b {
		n |= uint32(b[i]) << (8 * i)
	}
	return n
}
