package space_test

import (
	"cmp"
	"encoding/binary"
	"fmt"
	"hash/crc32"
	"slices"
	"strings"
	"testing"

	"quayside/api"
	"quayside/page"
)

// headOf is the head of a turn whose map has these bytes.
func headOf(turn int, text string) string {
	b := binary.LittleEndian.AppendUint32(nil, uint32(turn))
	b = binary.LittleEndian.AppendUint32(b, crc32.ChecksumIEEE([]byte(string(b)+text)))
	return string(b) + blank[:24]
}

// mapOf is a page of cells, each of them a key and its value.
func mapOf(t *testing.T, kind int, cells ...string) string {
	t.Helper()
	p, e := page.New(kind)
	must(t, "New", e, api.OK)
	for k := 0; k < len(cells); k += 2 {
		must(t, "Put", p.Put(cells[k], cells[k+1]), api.OK)
	}
	return p.Bytes()
}

// inUse are the bytes that tell which pages are in use.
func inUse(pages ...int) string {
	b := make([]byte, 63)
	for _, n := range pages {
		b[(n-1)/8] |= 1 << ((n - 1) % 8)
	}
	return string(b)
}

// laid is a disk's bytes with a head and a map at one of their two places.
func laid(image string, half int, head, text string) string {
	image = image[:half*32] + head + image[half*32+32:]
	at := 256 * (1 + half)
	return image[:at] + text + image[at+256:]
}

const usedKey = "pages in use"

// TestSp1Heads: of two heads the one of the greater turn is taken, if it goes with its map; else the other one.
func TestSp1Heads(t *testing.T) {
	one := func(n int) string { return mapOf(t, 3, usedKey, inUse(n), "a", string([]byte{byte(n), 0})) }
	for _, x := range []struct{ even, odd, want int }{{2, 1, 2}, {2, 3, 3}, {254, 255, 255}, {256, 255, 256}, {256, 257, 257}, {1 << 16, 1<<16 - 1, 1 << 16}, {1<<20 - 2, 1<<20 - 1, 1<<20 - 1}, {2, 1<<20 - 1, 1<<20 - 1}} {
		image := laid(signs(80), 0, headOf(x.even, one(2)), one(2))
		image = laid(image, 1, headOf(x.odd, one(3)), one(3))
		s := opened(t, diskOf(t, image), 0, 80)
		page, lesser := 2, x.odd
		if x.want == x.odd {
			page, lesser = 3, x.even
		}
		if s.Turn() != x.want {
			t.Errorf("%v: Turn %d", x, s.Turn())
		}
		named(t, fmt.Sprint(x), s, "a", page)
		reads(t, fmt.Sprint(x), s, page, image[(page+2)*256:(page+3)*256])
		for _, at := range []int{x.want % 2 * 32, x.want%2*32 + 7, 256 * (1 + x.want%2), 256*(1+x.want%2) + 255} {
			spoilt := []byte(image)
			spoilt[at] ^= 0x10
			if s := opened(t, diskOf(t, string(spoilt)), 0, 80); s.Turn() != lesser {
				t.Errorf("%v, byte %d spoilt: Turn %d", x, at, s.Turn())
			}
		}
	}
}

// TestR1Forged: heads and maps with right sums that no space has are not taken.
func TestR1Forged(t *testing.T) {
	right := mapOf(t, 3, usedKey, inUse(1, 2), "a", "\x01\x00", "b", "\x02\x00")
	other := mapOf(t, 3, usedKey, inUse(7))
	many := []string{usedKey, inUse(1)}
	for k := range 7 {
		many = append(many, fmt.Sprint("n", k), "\x01\x00")
	}
	maps := map[string]string{
		"of another kind":               mapOf(t, 1, usedKey, inUse(1, 2)),
		"no cells":                      mapOf(t, 3),
		"no pages in use told":          mapOf(t, 3, "a", "\x01\x00"),
		"too few bits":                  mapOf(t, 3, usedKey, inUse(1)[:62]),
		"too many bits":                 mapOf(t, 3, usedKey, inUse(1)+"\x00"),
		"a page that there is not":      mapOf(t, 3, usedKey, inUse(1, 8)),
		"the page 500":                  mapOf(t, 3, usedKey, inUse(500)),
		"the page 504":                  mapOf(t, 3, usedKey, inUse(504)),
		"a name of none":                mapOf(t, 3, usedKey, inUse(1), "a", "\x00\x00"),
		"a name of a page not in use":   mapOf(t, 3, usedKey, inUse(1), "a", "\x02\x00"),
		"a name of a page that is none": mapOf(t, 3, usedKey, inUse(1), "a", "\xff\xff"),
		"a name of one byte":            mapOf(t, 3, usedKey, inUse(1), "a", "\x01"),
		"a name of three bytes":         mapOf(t, 3, usedKey, inUse(1), "a", "\x01\x00\x00"),
		"a name that is too long":       mapOf(t, 3, usedKey, inUse(1), "123456789", "\x01\x00"),
		"seven names":                   mapOf(t, 3, many...),
		"noughts":                       blank,
		"no page":                       full(1),
		"ones":                          strings.Repeat("\xff", 256),
	}
	for what, text := range maps {
		image := laid(signs(80), 1, headOf(5, text), text)
		same(t, what, opened(t, diskOf(t, image), 0, 80), newModel(7))
		image = laid(image, 0, headOf(2, other), other)
		s := opened(t, diskOf(t, image), 0, 80)
		if s.Turn() != 2 || s.Used() != 1 || s.Fresh(7) {
			t.Errorf("%s, with another one: Turn %d, Used %d", what, s.Turn(), s.Used())
		}
	}
	heads := map[string]string{
		"the turn 0":         headOf(0, right),
		"an even turn":       headOf(4, right),
		"the turn 2^20 + 1":  headOf(1<<20+1, right),
		"the turn 2^31 + 1":  headOf(1<<31+1, right),
		"the turn 2^32 - 1":  headOf(1<<32-1, right),
		"a byte behind":      headOf(5, right)[:31] + "\x01",
		"another map's":      headOf(5, other),
		"another turn's sum": headOf(5, right)[:4] + headOf(7, right)[4:],
		"without a sum":      headOf(5, right)[:4] + blank[:28],
		"noughts":            blank[:32],
		"ones":               strings.Repeat("\xff", 32),
		"a head of layer 8":  headOf(5, ""),
	}
	for what, head := range heads {
		same(t, what, opened(t, diskOf(t, laid(signs(80), 1, head, right)), 0, 80), newModel(7))
	}
	even := opened(t, diskOf(t, laid(signs(80), 0, headOf(0, right), right)), 0, 80)
	same(t, "the turn 0 at its place", even, newModel(7))
	s := opened(t, diskOf(t, laid(signs(80), 1, headOf(5, right), right)), 0, 80)
	if s.Turn() != 5 || s.Used() != 2 {
		t.Errorf("what is right: Turn %d, Used %d", s.Turn(), s.Used())
	}
}

// TestR1AnyBytes: whatever the sectors are, a space of them can be opened, gone on with and committed.
func TestR1AnyBytes(t *testing.T) {
	for seed := range 400 {
		x := dice(6364136223846793005 + 31*seed)
		size := 1 + x.below(6)
		image := signs(8 * (size + 3))
		for half := range 2 {
			used := make([]byte, 63)
			used[pick(&x, 0, 0, 0, 1, 62)] = byte(x.below(256))
			cells := []string{usedKey, string(used)}
			for range x.below(9) {
				cells = append(cells, strings.Repeat(pick(&x, "a", "b", "\x00"), 1+x.below(9)), string([]byte{byte(x.below(9)), byte(x.below(2))}))
			}
			text := mapOf(t, pick(&x, 3, 3, 3, 4), cells...)
			image = laid(image, half, headOf(2*x.below(1<<19)+half, text), text)
		}
		d := diskOf(t, image)
		s := opened(t, d, 0, d.Size())
		for _, name := range s.Names() {
			n, _ := s.Named(name)
			if _, e := s.Read(n); e != api.OK {
				t.Fatalf("run %d: the page %d of %q: error %d", seed, n, name, e)
			}
		}
		for k := range 30 {
			do(s, x.step(size))
			if s.Used() > s.Pages() || len(s.Names()) > 6 {
				t.Fatalf("run %d, step %d: Used %d, Names %q", seed, k, s.Used(), s.Names())
			}
		}
		must(t, "Rollback", s.Rollback(), api.OK)
		commits(t, s)
		if o := opened(t, d, 0, d.Size()); o.Turn() != s.Turn() || o.Used() != s.Used() {
			t.Fatalf("run %d: Turn %d, Used %d, want %d, %d", seed, o.Turn(), o.Used(), s.Turn(), s.Used())
		}
	}
}

// sumWith is the sum in the head of the turn 3 that commits, upon committed's two pages, a third one by a name.
func sumWith(t *testing.T, name string) uint32 {
	t.Helper()
	text := mapOf(t, 3, usedKey, inUse(1, 2, 3), "a", "\x01\x00", "b", "\x02\x00", name, "\x03\x00")
	return binary.LittleEndian.Uint32([]byte(headOf(3, text)[4:8]))
}

// nameOfSum is a name with which that sum is one that is given: a bit of the name turns the same bits of the sum, whatever the others are.
func nameOfSum(t *testing.T, want uint32) string {
	t.Helper()
	type turned struct {
		sum  uint32
		bits uint64
	}
	base := uint64('A')
	text := func(bits uint64) string { return string(binary.LittleEndian.AppendUint64(nil, base^bits)) }
	none := sumWith(t, text(0))
	var by []turned // no two of which have the same greatest bit in their sums
	reduce := func(x turned) turned {
		for _, y := range by {
			if x.sum^y.sum < x.sum {
				x = turned{x.sum ^ y.sum, x.bits ^ y.bits}
			}
		}
		return x
	}
	for k := 8; k < 64; k++ {
		x := reduce(turned{sumWith(t, text(1<<k)) ^ none, 1 << k})
		if x.sum != 0 {
			by = append(by, x)
			slices.SortFunc(by, func(a, b turned) int { return cmp.Compare(b.sum, a.sum) })
		}
	}
	name := text(reduce(turned{sum: want ^ none}).bits)
	if sumWith(t, name) != want {
		t.Fatalf("%q: %x, want %x", name, sumWith(t, name), want)
	}
	return name
}

// TestSp5Chance: what a crash left of a head has, by chance, the sum of the map that is written next: a crash in the midst of that leaves it as it was committed last, though the map survives, and the page that it tells of does not.
func TestSp5Chance(t *testing.T) {
	image, m := committed(t, 2)
	for kept := 4; kept <= 7; kept++ {
		d, _, _ := goneOff(t, image, m, lastFuse(t, image, m))
		crash(t, d, kept)
		torn := bytesOf(t, d, 0, d.Size())
		same(t, "torn", opened(t, diskOf(t, torn), 0, d.Size()), m)
		name := nameOfSum(t, binary.LittleEndian.Uint32([]byte(torn[32+4:32+8])))
		for fuse, on := 0, false; !on; fuse++ {
			d := diskOf(t, torn)
			s, after := opened(t, d, 0, d.Size()), m.rolledBack()
			both(t, s, after, step{kind: "Alloc"}, step{kind: "Write", n: 3, text: full(33)}, step{kind: "Name", text: name, n: 3})
			lost := make([]int, d.Waits())
			must(t, "Fuse", d.Fuse(fuse), api.OK)
			var may []*model
			may, on = run(t, s, after, []step{{kind: "Commit"}})
			crash(t, d, append(lost, slices.Repeat([]int{32}, d.Waits())...)...)
			oneOf(t, fmt.Sprintf("%d bytes of a head, fuse %d", kept, fuse), opened(t, d, 0, d.Size()), may)
		}
	}
}
