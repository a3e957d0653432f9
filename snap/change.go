package snap

import (
	"quayside/api"
	"quayside/disk"
	"quayside/space"
)

// change does something to the pages, whole, or not at all.
// It is done to a copy first, so that what is refused has written nothing, and what is not has each page written once.
func (s *Store) change(do func(p *space.Space) api.Errno) api.Errno {
	c, e := s.copied()
	if e != api.OK {
		return e
	}
	if e := do(c); e != api.OK {
		return e
	}
	e = s.follow(c)
	if e != api.OK {
		s.space.Rollback()
	}
	return e
}

// stands tells whether what is committed is there yet, as far as the space's own pages tell it.
func (s *Store) stands() api.Errno {
	p, e := space.Open(s.disk, s.from, s.to)
	if e != api.OK {
		return e
	}
	if p.Turn() != s.space.Turn() {
		return api.ErrPage
	}
	return api.OK
}

// copied is the space on a disk of its own.
func (s *Store) copied() (*space.Space, api.Errno) {
	if e := s.stands(); e != api.OK {
		return nil, e
	}
	size := s.to - s.from
	d, _ := disk.New(size)
	for k := range size {
		text, e := s.disk.Read(s.from + k)
		if e != api.OK {
			return nil, e
		}
		d.Write(k, text)
	}
	return space.Open(d, 0, size)
}

// follow lets the pages be what those of a copy are that was changed and committed.
func (s *Store) follow(c *space.Space) api.Errno {
	var spare []int
	for k := range c.Pages() {
		n := k + 1
		was, is := inUse(s.space, n), inUse(c, n)
		switch {
		case was && !is:
			s.space.Release(n)
		case is && !was:
			passed, e := s.take(n)
			if e != api.OK {
				return e
			}
			spare = append(spare, passed...)
			// What was in use when it was committed last is never another page in the copy.
			text, _ := c.Read(n)
			if e := s.space.Write(n, text); e != api.OK {
				return e
			}
		}
	}
	for _, n := range spare {
		s.space.Release(n)
	}
	return commit(s.space, namesOf(c))
}

func inUse(p *space.Space, n int) bool {
	_, e := p.Read(n)
	return e != api.ErrSpace
}

// take takes a page of which it is known that it may be taken, and those below it that are taken on the way.
func (s *Store) take(n int) ([]int, api.Errno) {
	var passed []int
	for {
		m, e := s.space.Alloc()
		if e != api.OK {
			return nil, e
		}
		if m == n {
			return passed, api.OK
		}
		passed = append(passed, m)
	}
}
