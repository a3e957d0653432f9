package space_test

import (
	"fmt"
	"slices"
	"strings"
	"testing"

	"quayside/api"
	"quayside/space"
)

func namesAre(t *testing.T, what string, s *space.Space, want ...string) {
	t.Helper()
	if got := s.Names(); !slices.Equal(got, want) {
		t.Fatalf("%s: Names: %q, want %q", what, got, want)
	}
}

// TestSp3Texts: a name is a text of 1 to 8 bytes, whichever they are.
func TestSp3Texts(t *testing.T) {
	for _, name := range []string{"", "123456789", "pages in use", strings.Repeat("n", 80), strings.Repeat("n", 1<<16)} {
		_, s := small(t, 7)
		allocs(t, s, 1)
		for _, n := range append(others, 1, 2) {
			must(t, fmt.Sprintf("Name(%.20q, %d)", name, n), s.Name(name, n), api.ErrArg)
		}
		namesAre(t, "none", s)
		named(t, "none", s, name, 0)
		must(t, "Forget of what is no name", s.Forget(name), api.ErrNone)
	}
	for _, name := range []string{"1", "12345678", "\x00", "\x00\x00\x00\x00\x00\x00\x00\x00", "\xff", "\xff\xff\xff\xff\xff\xff\xff\xff", "é", "\n", "it's"} {
		d, s := small(t, 7)
		allocs(t, s, 1, 2)
		must(t, fmt.Sprintf("Name(%q)", name), s.Name(name, 2), api.OK)
		named(t, "named", s, name, 2)
		named(t, "with a byte more", s, name+"\x00", 0)
		named(t, "with a byte fewer", s, name[:len(name)-1], 0)
		namesAre(t, "named", s, name)
		commits(t, s)
		crash(t, d)
		s = opened(t, d, 0, d.Size())
		named(t, "opened", s, name, 2)
		namesAre(t, "opened", s, name)
		must(t, "Forget", s.Forget(name), api.OK)
		named(t, "forgotten", s, name, 0)
		namesAre(t, "forgotten", s)
	}
}

// TestSp3Pages: only a page in use is named, fresh or committed.
func TestSp3Pages(t *testing.T) {
	_, s := small(t, 7)
	for _, n := range append(others, 1, 7) {
		must(t, fmt.Sprintf("Name of page %d", n), s.Name("a", n), api.ErrSpace)
	}
	allocs(t, s, 1, 2)
	commits(t, s)
	allocs(t, s, 3)
	must(t, "Name of one that was committed", s.Name("a", 1), api.OK)
	must(t, "Name of one that is fresh", s.Name("b", 3), api.OK)
	must(t, "Name of one with another name", s.Name("c", 3), api.OK)
	must(t, "Release", s.Release(2), api.OK)
	for _, n := range append(others, 2, 4) {
		must(t, fmt.Sprintf("Name of page %d", n), s.Name("d", n), api.ErrSpace)
		must(t, fmt.Sprintf("the name of another one for page %d", n), s.Name("a", n), api.ErrSpace)
	}
	named(t, "as it was", s, "a", 1)
	named(t, "as it was", s, "b", 3)
	named(t, "as it was", s, "c", 3)
	namesAre(t, "as they were", s, "a", "b", "c")
}

// TestSp3Six: a seventh name is refused; one that is there may go to another page; behind a Forget there is room again.
func TestSp3Six(t *testing.T) {
	_, s := small(t, 7)
	allocs(t, s, 1, 2)
	want := []string{"a", "b", "c", "d", "e", "f"}
	for k, name := range want {
		must(t, "Name", s.Name(name, 1), api.OK)
		must(t, "Name, again", s.Name(name, 1+k%2), api.OK)
	}
	must(t, "a seventh name", s.Name("g", 1), api.ErrFull)
	must(t, "a seventh name of a page that is not in use", s.Name("g", 3), api.ErrSpace)
	namesAre(t, "six", s, want...)
	for k, name := range want {
		named(t, "six", s, name, 1+k%2)
		must(t, "to another page", s.Name(name, 2-k%2), api.OK)
		named(t, "to another page", s, name, 2-k%2)
	}
	commits(t, s)
	must(t, "a seventh name behind a commit", s.Name("g", 1), api.ErrFull)
	must(t, "Forget", s.Forget("c"), api.OK)
	must(t, "a sixth name", s.Name("g", 1), api.OK)
	must(t, "the seventh again", s.Name("c", 1), api.ErrFull)
	namesAre(t, "six others", s, "a", "b", "d", "e", "f", "g")
}

// TestSp3Forget: of a name that is there, once; of others not.
func TestSp3Forget(t *testing.T) {
	_, s := small(t, 7)
	must(t, "Forget of none", s.Forget("a"), api.ErrNone)
	allocs(t, s, 1)
	must(t, "Name", s.Name("a", 1), api.OK)
	must(t, "Name", s.Name("aa", 1), api.OK)
	for _, name := range []string{"", "b", "A", "a\x00", "aaa", "pages in use"} {
		must(t, fmt.Sprintf("Forget(%q)", name), s.Forget(name), api.ErrNone)
	}
	must(t, "Forget", s.Forget("a"), api.OK)
	must(t, "Forget, again", s.Forget("a"), api.ErrNone)
	named(t, "forgotten", s, "a", 0)
	named(t, "the other one", s, "aa", 1)
	if s.Used() != 1 {
		t.Error("the page is not in use any more")
	}
	reads(t, "the page of a name that was forgotten", s, 1, blank)
}

// TestSp3Rising: names are told byte by byte, whatever order they came in.
func TestSp3Rising(t *testing.T) {
	want := []string{"\x00", "\x00\x00", "A", "a", "a\x00", "\xff"}
	for first := range want {
		_, s := small(t, 1)
		allocs(t, s, 1)
		for k := range want {
			must(t, "Name", s.Name(want[(first+5*k)%6], 1), api.OK)
		}
		for range 5 {
			namesAre(t, "rising", s, want...)
		}
	}
}

// TestSp3Released: a name stays when its page is released; it is of the page that is taken there again.
func TestSp3Released(t *testing.T) {
	_, s := small(t, 7)
	allocs(t, s, 1)
	must(t, "Name", s.Name("a", 1), api.OK)
	must(t, "Release", s.Release(1), api.OK)
	named(t, "released", s, "a", 1)
	namesAre(t, "released", s, "a")
	must(t, "Commit", s.Commit(), api.ErrSpace)
	named(t, "refused", s, "a", 1)
	allocs(t, s, 1)
	commits(t, s)
	named(t, "taken again", s, "a", 1)
	reads(t, "taken again", s, 1, blank)
}
