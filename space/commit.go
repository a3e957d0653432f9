package space

import (
	"strings"

	"quayside/api"
	"quayside/crc"
)

const maxTurn = 1<<20 - 1

// Two turns one behind the other have a head and a map of their own each.
const halves = 2

func halfOf(turn int) int { return turn % halves }

func noughts(n int) string { return strings.Repeat("\x00", n) }

// headBytes are those of a turn's head: its sum is of the turn, and of the map that stands for it.
func headBytes(turn int, text string) string {
	s := crc.Put(turn)
	s += crc.Put(crc.Sum(s + text))
	return s + noughts(api.SectorSize-len(s))
}

// placeOf is which of the whole pages has a number.
func placeOf(n int) int { return firstPlace + n - 1 }

func (s *Space) sectorOf(place int) int { return s.from + place*sectorsOfPage }

// eachSector tells the sectors of a page one behind the other, and where in it each begins, up to one at which there is an error.
func (s *Space) eachSector(place int, tell func(at, begin int) api.Errno) api.Errno {
	for k := range sectorsOfPage {
		if e := tell(s.sectorOf(place)+k, k*api.SectorSize); e != api.OK {
			return e
		}
	}
	return api.OK
}

func (s *Space) writePlace(place int, b string) api.Errno {
	return s.eachSector(place, func(at, begin int) api.Errno {
		return s.disk.Write(at, b[begin:begin+api.SectorSize])
	})
}

func (s *Space) readPlace(place int) (string, api.Errno) {
	var b strings.Builder
	e := s.eachSector(place, func(at, _ int) api.Errno {
		text, e := s.disk.Read(at)
		b.WriteString(text)
		return e
	})
	if e != api.OK {
		return "", e
	}
	return b.String(), api.OK
}

// latest is the greater turn that is whole, and what was committed in it; 0, and nothing, if there is none.
func (s *Space) latest() (int, state) {
	turn, found := 0, state{names: map[string]int{}}
	for half := range halves {
		if n, t, whole := s.committed(half); whole && n > turn {
			turn, found = n, t
		}
	}
	return turn, found
}

// committed is the turn of a head, and what was committed in it; false: a head and a map that do not go with each other, or not with these sectors.
func (s *Space) committed(half int) (int, state, bool) {
	head, e := s.disk.Read(s.sectorOf(headsPlace) + half)
	if e != api.OK {
		return 0, state{}, false
	}
	text, e := s.readPlace(mapsPlace + half)
	if e != api.OK {
		return 0, state{}, false
	}
	turn := crc.Take(head)
	if turn > maxTurn || halfOf(turn) != half || head != headBytes(turn, text) {
		return 0, state{}, false
	}
	t, whole := stateOf(text)
	return turn, t, whole && t.fits(s.pages)
}

// Commit lets all that was done be so, sure.
func (s *Space) Commit() api.Errno {
	if !s.isOpen() {
		return api.ErrArg
	}
	if !s.now.sound() {
		return api.ErrSpace
	}
	if s.turn == maxTurn {
		return api.ErrFull
	}
	if e := s.lay(s.turn+1, s.now.bytes()); e != api.OK {
		return e
	}
	s.turn++
	s.last = s.now.copied()
	return api.OK
}

// lay writes the map and the head of a turn, in place of those of the turn ahead of the last one.
func (s *Space) lay(turn int, text string) api.Errno {
	half := halfOf(turn)
	// The sum of a head that a crash tore could be, by chance, that of a map that another crash tears: while the map is written there is no head.
	if e := s.putHead(half, noughts(api.SectorSize)); e != api.OK {
		return e
	}
	if e := s.writePlace(mapsPlace+half, text); e != api.OK {
		return e
	}
	// Only once the map, and all pages, are sure the head may be.
	if e := s.disk.Flush(); e != api.OK {
		return e
	}
	return s.putHead(half, headBytes(turn, text))
}

// putHead writes a head, and lets it be sure.
func (s *Space) putHead(half int, text string) api.Errno {
	if e := s.disk.Write(s.sectorOf(headsPlace)+half, text); e != api.OK {
		return e
	}
	return s.disk.Flush()
}

// Rollback lets all that was done since the last commit not be.
func (s *Space) Rollback() api.Errno {
	if !s.isOpen() {
		return api.ErrArg
	}
	s.now = s.last.copied()
	return api.OK
}
