package space

import (
	"maps"
	"math/bits"

	"quayside/api"
	"quayside/crc"
	"quayside/page"
)

const (
	maxNames   = 6
	maxName    = 8
	bitsOfByte = 8
)

// A map is a page of layer 12: a cell for the pages in use, and one for each name, with its page's number.
const (
	mapKind       = 3
	usedKey       = "pages in use" // longer than a name, so that it is none
	bytesOfNumber = 2
)

// inUse has a bit for each page, from 1 on.
type inUse [(api.MaxPages + bitsOfByte - 1) / bitsOfByte]byte

func (u *inUse) has(n int) bool {
	return n >= 1 && n <= bitsOfByte*len(u) && u[(n-1)/bitsOfByte]>>((n-1)%bitsOfByte)&1 == 1
}

// flip lets a page that is in use not be so, and the other way round.
func (u *inUse) flip(n int) { u[(n-1)/bitsOfByte] ^= 1 << ((n - 1) % bitsOfByte) }

func (u *inUse) count() int {
	n := 0
	for _, b := range u {
		n += bits.OnesCount8(b)
	}
	return n
}

// most is the greatest page in use; 0, if there is none.
func (u *inUse) most() int {
	n := bitsOfByte * len(u)
	for n > 0 && !u.has(n) {
		n--
	}
	return n
}

// state is what is committed together.
type state struct {
	used  inUse
	names map[string]int
}

func mayName(name string) bool { return name != "" && len(name) <= maxName }

func (t *state) copied() state { return state{used: t.used, names: maps.Clone(t.names)} }

// sound tells whether each name is of a page in use.
func (t *state) sound() bool {
	for _, n := range t.names {
		if !t.used.has(n) {
			return false
		}
	}
	return true
}

// fits tells whether it may be that of so many pages.
func (t *state) fits(pages int) bool {
	return t.sound() && len(t.names) <= maxNames && t.used.most() <= pages
}

// bytes are those of its map, for which a page has room.
func (t *state) bytes() string {
	p, _ := page.New(mapKind)
	p.Put(usedKey, string(t.used[:]))
	for name, n := range t.names {
		p.Put(name, crc.Put(n)[:bytesOfNumber])
	}
	return p.Bytes()
}

// stateOf is the state of a map's bytes, and whether they are those of one.
func stateOf(s string) (state, bool) {
	t := state{names: map[string]int{}}
	p, e := page.Read(s)
	if e != api.OK {
		return t, false
	}
	for k := range p.Len() {
		key, text := p.At(k)
		if key == usedKey {
			copy(t.used[:], text)
		} else if mayName(key) && len(text) == bytesOfNumber {
			t.names[key] = int(text[0]) | int(text[1])<<bitsOfByte
		}
	}
	// Cells that are none of a map's are told by what bytes there are without them.
	return t, t.bytes() == s
}
