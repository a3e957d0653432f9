package page

import "quayside/api"

// mayCell tells whether there may be a cell of so many bytes, of which so many are its key.
func mayCell(key, size int) bool {
	return key >= 1 && key <= maxKey && key <= size && size <= api.MaxCell
}

// Put puts a cell, in place of the one with that key.
func (p *Page) Put(key, value string) api.Errno {
	size := len(key) + len(value)
	if !p.is() || !mayCell(len(key), size) {
		return api.ErrArg
	}
	k, has := p.Find(key)
	room, rest := p.room(), k
	if has {
		room += bytesOfPlace + p.end(k) - p.begin(k)
		rest++
	}
	if bytesOfPlace+size > room {
		return api.ErrFull
	}
	old := *p
	p.cut(k)
	p.add(key, value)
	p.take(&old, rest)
	return api.OK
}

// Drop takes a cell out.
func (p *Page) Drop(key string) api.Errno {
	if !p.is() {
		return api.ErrArg
	}
	k, has := p.Find(key)
	if !has {
		return api.ErrNone
	}
	old := *p
	p.cut(k)
	p.take(&old, k+1)
	return api.OK
}

// Split takes the cells from a place on out, into another page.
func (p *Page) Split(k int) (*Page, api.Errno) {
	if !p.is() || k < 0 || k > p.Len() {
		return nil, api.ErrArg
	}
	q := empty(p.bytes[kindAt])
	q.take(p, k)
	p.cut(k)
	return q, api.OK
}

// Join takes the cells of a page whose keys stand behind.
func (p *Page) Join(q *Page) api.Errno {
	if !p.is() || p.Kind() != q.Kind() || !p.ahead(q) {
		return api.ErrArg
	}
	if bytesOfPlace*q.Len()+q.used() > p.room() {
		return api.ErrFull
	}
	p.take(q, 0)
	return api.OK
}

// ahead tells whether all keys of another page stand behind all of this one.
func (p *Page) ahead(q *Page) bool {
	return p.Len() == 0 || q.Len() == 0 || p.key(p.Len()-1) < q.key(0)
}

// cut takes the cells from a place on out, and leaves noughts, since bytes in which there is no cell must be such.
func (p *Page) cut(k int) {
	n := p.Len()
	clear(p.bytes[p.end(n):p.end(k)])
	clear(p.bytes[placeOf(k):placeOf(n)])
	p.tally(k)
}

// add puts a cell behind all others.
func (p *Page) add(key, value string) {
	n := p.Len()
	begin := p.end(n) - len(key) - len(value)
	copy(p.bytes[begin:], key)
	copy(p.bytes[begin+len(key):], value)
	p.bytes[placeOf(n)], p.bytes[placeOf(n)+1] = byte(begin), byte(len(key))
	p.tally(n + 1)
}

// take puts another page's cells from a place on behind all others; they have room.
func (p *Page) take(q *Page, k int) {
	n, all := p.Len(), q.Len()
	cells := q.bytes[q.end(all):q.end(k)]
	moved := q.end(k) - p.end(n)
	copy(p.bytes[p.end(n)-len(cells):], cells)
	copy(p.bytes[placeOf(n):], q.bytes[placeOf(k):placeOf(all)])
	count := n + all - k
	for i := n; i < count; i++ {
		p.bytes[placeOf(i)] -= byte(moved)
	}
	p.tally(count)
}

// tally says how many cells there are, and how many bytes they have.
func (p *Page) tally(count int) {
	used := api.PageSize - p.end(count)
	p.bytes[countAt] = byte(count)
	p.bytes[usedAt], p.bytes[usedAt+1] = byte(used), byte(used>>8)
}
