package page

import "quayside/api"

// Read is the page of bytes.
func Read(s string) (*Page, api.Errno) {
	if len(s) != api.PageSize {
		return nil, api.ErrPage
	}
	p := new(Page)
	copy(p.bytes[:], s)
	clear(p.bytes[sumAt:placesAt])
	if !p.is() || s[sumAt:placesAt] != p.sum() || !p.sound() {
		return nil, api.ErrPage
	}
	return p, api.OK
}

// sound tells whether the bytes behind the kind are those of some cells: a sum can be right by chance, or be made so.
func (p *Page) sound() bool {
	n := p.Len()
	if placeOf(n) > api.PageSize {
		return false
	}
	for k := range n {
		if !p.soundCell(k) {
			return false
		}
	}
	return p.room() >= 0 && p.used() == api.PageSize-p.end(n) && noughts(p.bytes[placeOf(n):p.end(n)])
}

// soundCell tells whether the cell at a place may be and stands behind the one ahead of it, which is sound.
func (p *Page) soundCell(k int) bool {
	return mayCell(p.keySize(k), p.end(k)-p.begin(k)) && (k == 0 || p.key(k-1) < p.key(k))
}

func noughts(l []byte) bool {
	for _, b := range l {
		if b != 0 {
			return false
		}
	}
	return true
}
