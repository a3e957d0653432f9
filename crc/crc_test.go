package crc_test

import (
	"encoding/binary"
	"hash/crc32"
	"strings"
	"testing"

	"quayside/api"
	"quayside/crc"
)

const lowest32 = 1<<32 - 1

// texts are of all kinds of bytes and of many lengths, the same ones each time.
func texts() []string {
	every := ""
	for b := range 256 {
		every += string([]byte{byte(b)})
	}
	l := []string{"", "\x00", "\xff", "a", "123456789", "\x00\x00\x00\x00", "\xff\xff\xff\xff", "\x00\xff\x00\xff", "a\x00", "\x00a", "a\xffb", every, strings.Repeat("\x00", 1000), strings.Repeat("\xff", 1000)}
	for k := range 256 {
		l = append(l, every[k:k+1])
	}
	x := uint64(88172645463325252)
	for k := range 200 {
		var t []byte
		for range k {
			x ^= x << 13
			x ^= x >> 7
			x ^= x << 17
			t = append(t, byte(x>>32))
		}
		l = append(l, string(t))
	}
	return l
}

// sums are numbers of 32 bits and others: greater ones, and some below 0.
func sums() []int {
	l := []int{0, 1, 0x7f, 0x80, 0xff, 0x100, 0xffff, 0x10000, 0xffffff, 0x1000000, 0x7fffffff, 0x80000000, 0xcbf43926, 0xedb88320, lowest32, lowest32 + 1, lowest32 + 2, 1<<33 + 5, 0xabc<<32 | 0xcbf43926, -1, -2, -0x100, -1 << 31, -1<<31 - 1, -1 << 32, -1<<32 + 7, api.MaxInt, api.MinInt, api.MinInt + 3}
	for k := range 64 {
		l = append(l, 1<<k, 0x0123456789abcdef<<k, -1<<k)
	}
	return l
}

func expect(t *testing.T, what string, got, want int) {
	t.Helper()
	if got != want {
		t.Errorf("%q: %x, want %x", what, got, want)
	}
}

// TestCr1 writes out sums that are known, the chapter's example among them.
func TestCr1(t *testing.T) {
	for _, x := range []struct {
		s    string
		want int
	}{
		{"123456789", 0xcbf43926},
		{"", 0},
		{"\x00", 0xd202ef8d},
		{"\xff", 0xff000000},
		{"\x00\x00\x00\x00", 0x2144df1c},
		{"\xff\xff\xff\xff", 0xffffffff},
		{"a", 0xe8b7be43},
		{"abc", 0x352441c2},
		{"The quick brown fox jumps over the lazy dog", 0x414fa339},
	} {
		expect(t, "Sum of "+x.s, crc.Sum(x.s), x.want)
		expect(t, "More of 0 and "+x.s, crc.More(0, x.s), x.want)
	}
}

// TestCr1Library holds sums against those of the library.
func TestCr1Library(t *testing.T) {
	for _, s := range texts() {
		expect(t, "Sum of "+s, crc.Sum(s), int(crc32.ChecksumIEEE([]byte(s))))
		for _, sum := range sums() {
			want := crc32.Update(uint32(sum), crc32.IEEETable, []byte(s))
			if got := crc.More(sum, s); got != int(want) {
				t.Errorf("More(%x, %q): %x, want %x", sum, s, got, want)
			}
		}
	}
}

// TestCr1Lowest: of a number that is no sum its lowest 32 bits count, even if nothing stands behind it.
func TestCr1Lowest(t *testing.T) {
	expect(t, "More of -1 and nothing", crc.More(-1, ""), lowest32)
	expect(t, "More of 2^32 and nothing", crc.More(1<<32, ""), 0)
	expect(t, "More of the least number and nothing", crc.More(api.MinInt, ""), 0)
	expect(t, "More of 2^32 and a text", crc.More(1<<32, "123456789"), 0xcbf43926)
	for _, sum := range sums() {
		expect(t, "More of a sum and nothing", crc.More(sum, ""), sum&lowest32)
		expect(t, "More of a sum and a text", crc.More(sum, "a\x00\xff"), crc.More(sum&lowest32, "a\x00\xff"))
	}
}

func TestCr2Put(t *testing.T) {
	for _, x := range []struct {
		sum  int
		want string
	}{
		{0, "\x00\x00\x00\x00"},
		{1, "\x01\x00\x00\x00"},
		{0xcbf43926, "\x26\x39\xf4\xcb"},
		{0x04030201, "\x01\x02\x03\x04"},
		{lowest32, "\xff\xff\xff\xff"},
		{lowest32 + 1, "\x00\x00\x00\x00"},
		{0x7fffffff04030201, "\x01\x02\x03\x04"},
		{-1, "\xff\xff\xff\xff"},
		{-2, "\xfe\xff\xff\xff"},
		{api.MinInt, "\x00\x00\x00\x00"},
		{api.MaxInt, "\xff\xff\xff\xff"},
	} {
		if got := crc.Put(x.sum); got != x.want {
			t.Errorf("Put(%x): %q, want %q", x.sum, got, x.want)
		}
	}
	for _, sum := range sums() {
		want := string(binary.LittleEndian.AppendUint32(nil, uint32(sum)))
		if got := crc.Put(sum); got != want {
			t.Errorf("Put(%x): %q, want %q", sum, got, want)
		}
	}
}

func TestCr2Take(t *testing.T) {
	for _, x := range []struct {
		s    string
		want int
	}{
		{"", -1},
		{"\x01", -1},
		{"\x01\x02", -1},
		{"\x01\x02\x03", -1},
		{"\x00\x00\x00", -1},
		{"\xff\xff\xff", -1},
		{"\x01\x02\x03\x04", 0x04030201},
		{"\x00\x00\x00\x00", 0},
		{"\xff\xff\xff\xff", lowest32},
		{"\x00\x00\x00\x80", 0x80000000},
		{"\x26\x39\xf4\xcb", 0xcbf43926},
		{"\x26\x39\xf4\xcbx", 0xcbf43926},
		{"\x01\x02\x03\x04\x05\x06\x07\x08\x09", 0x04030201},
		{"\xff\xff\xff\xff\xff\xff\xff\xff", lowest32},
	} {
		if got := crc.Take(x.s); got != x.want {
			t.Errorf("Take(%q): %x, want %x", x.s, got, x.want)
		}
	}
	for _, s := range texts() {
		want := -1
		if len(s) >= 4 {
			want = int(binary.LittleEndian.Uint32([]byte(s)))
		}
		if got := crc.Take(s); got != want {
			t.Errorf("Take(%q): %x, want %x", s, got, want)
		}
	}
}

func TestCr2Same(t *testing.T) {
	for _, x := range []struct {
		what, a, b string
		want       bool
	}{
		{"nothing twice", "", "", false},
		{"a text and itself", "plumless", "plumless", false},
		{"a collision", "plumless", "buckeroo", true},
		{"one length, two sums", "plumless", "buckerop", false},
		{"one letter each", "a", "b", false},
		{"bytes that are 0, of two lengths", "\x00", "\x00\x00", false},
		{"nothing and a byte", "", "\x00", false},
		{"a text and its beginning", "abc", "ab", false},
	} {
		if crc.Same(x.a, x.b) != x.want || crc.Same(x.b, x.a) != x.want {
			t.Errorf("%s: Same(%q, %q) is not %v both ways", x.what, x.a, x.b, x.want)
		}
	}
}

// sealed has the same sum for all texts: that of four bytes 0.
func sealed(s string) string {
	return s + string(binary.LittleEndian.AppendUint32(nil, crc32.ChecksumIEEE([]byte(s))))
}

// TestCr2SameMade holds texts of one sum against each other: their length decides, and whether they are one.
func TestCr2SameMade(t *testing.T) {
	l := texts()
	collisions, lengths := 0, 0
	for _, a := range l {
		for _, b := range l {
			want := a != b && len(a) == len(b)
			if got := crc.Same(sealed(a), sealed(b)); got != want {
				t.Fatalf("Same(%q, %q): %v, want %v", sealed(a), sealed(b), got, want)
			}
			if want {
				collisions++
			}
			if len(a) != len(b) {
				lengths++
			}
		}
	}
	if collisions == 0 || lengths == 0 {
		t.Error("no collision, or no two lengths, were tried")
	}
}

// TestCr3Parts cuts texts at every place.
func TestCr3Parts(t *testing.T) {
	for _, s := range texts() {
		whole := crc.Sum(s)
		for cut := range len(s) + 1 {
			if got := crc.More(crc.Sum(s[:cut]), s[cut:]); got != whole {
				t.Fatalf("%q cut at %d: %x, want %x", s, cut, got, whole)
			}
		}
	}
}

// TestCr3Taken: what was put is taken, whatever stands behind it.
func TestCr3Taken(t *testing.T) {
	for _, sum := range sums() {
		for _, behind := range []string{"", "\x00", "\xff\xff", "a text"} {
			if got := crc.Take(crc.Put(sum) + behind); got != sum&lowest32 {
				t.Errorf("Take of Put(%x) and %q: %x", sum, behind, got)
			}
		}
	}
	for _, s := range texts() {
		expect(t, "what was put of the sum of "+s, crc.Take(crc.Put(crc.Sum(s))), crc.Sum(s))
	}
}
