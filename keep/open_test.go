package keep_test

import (
	"fmt"
	"regexp"
	"slices"
	"strings"
	"testing"

	"quayside/api"
	"quayside/disk"
	"quayside/ledger"
)

// TestKe1OpenNone: what is no disk of 4 sectors is refused, with the power on or off.
func TestKe1OpenNone(t *testing.T) {
	refusesOpen(t, "nil", nil, api.ErrArg)
	refusesOpen(t, "the zero disk", &disk.Disk{}, api.ErrArg)
	for n := 1; n <= 3; n++ {
		d := newDisk(t, n)
		refusesOpen(t, fmt.Sprint(n, " sectors"), d, api.ErrArg)
		holds(t, fmt.Sprint(n, " sectors"), d, 0, strings.Repeat("\x00", 32*n))
		putOff(t, d)
		refusesOpen(t, fmt.Sprint(n, " sectors, off"), d, api.ErrArg)
	}
}

// TestKe1OpenBytes: what is laid on an empty disk, byte by byte.
func TestKe1OpenBytes(t *testing.T) {
	empty := framed(1, "E\x01\x01\x80\x00\x00\x00\x00\x00\x00\x00")
	if want := "\x01\x00\x00\x00\x0b\x00"; empty[:6] != want {
		t.Errorf("the record begins with %q, want %q", empty[:6], want)
	}
	d := newDisk(t, 4)
	has(t, "4 sectors", opened(t, d), 1, api.Ledger{})
	// The CRC-32 of 01 00 00 00 is 99f8b879.
	first := "\x01\x00\x00\x00\x79\xb8\xf8\x99" + strings.Repeat("\x00", 24)
	blank := strings.Repeat("\x00", 32)
	holds(t, "4 sectors", d, 0, blank+first+blank+empty+strings.Repeat("\x00", 11))
	has(t, "4 sectors again", opened(t, d), 2, api.Ledger{})
	second := "\x02\x00\x00\x00" + sumOf("\x02\x00\x00\x00") + strings.Repeat("\x00", 24)
	holds(t, "4 sectors again", d, 0, second+first+framed(2, endRecord(0))+strings.Repeat("\x00", 11)+empty+strings.Repeat("\x00", 11))
}

// TestKe1OpenSizes: of each size the areas have half of what is behind the heads; a sector that is left is not written.
func TestKe1OpenSizes(t *testing.T) {
	for _, n := range []int{4, 5, 6, 7, 8, 9, 30, 31, 101, 4095, 4096} {
		image := signs(n)
		d := diskOf(t, image)
		k := opened(t, d)
		for turn := 1; turn <= 4; turn++ {
			what := fmt.Sprintf("%d sectors, turn %d", n, turn)
			image = laid(t, image, turn, endRecord(0))
			has(t, what, k, turn, api.Ledger{})
			holds(t, what, d, 0, image)
			k = opened(t, d)
		}
	}
}

// TestKe1OpenOff: nothing is opened while the power is off; what was there is there.
func TestKe1OpenOff(t *testing.T) {
	image := laid(t, signs(60), 3, recordsOf(busy(t))...)
	d := diskOf(t, image)
	putOff(t, d)
	refusesOpen(t, "off", d, api.ErrOff)
	full := diskOf(t, laid(t, signs(60), lastTurn, endRecord(0)))
	putOff(t, full)
	refusesOpen(t, "off, of the last turn", full, api.ErrOff)
	crash(t, d)
	holds(t, "on", d, 0, image)
	has(t, "on", opened(t, d), 4, busy(t))
}

// TestKe1OpenWrites: the sectors of the area are written one behind the other, then a flush, the head, a flush: at each of them the power may go off.
func TestKe1OpenWrites(t *testing.T) {
	image := laid(t, signs(61), 2, with(busy(t), adjust("s", "x", 4))...)
	want := behind(t, busy(t), adjust("s", "x", 4))
	after := laid(t, image, 3, recordsOf(want)...)
	from, to := area(image, 3)
	sectors := (to - from) / 32
	for fuse := range sectors + 3 {
		d := diskOf(t, image)
		must(t, "Fuse", d.Fuse(fuse), api.OK)
		refusesOpen(t, fmt.Sprintf("fuse %d", fuse), d, api.ErrOff)
		there, waits := image, min(fuse, sectors)
		there = upon(there, from, after[from:from+waits*32])
		if fuse > sectors {
			waits = fuse - sectors - 1
		}
		if fuse == sectors+2 {
			there = upon(there, 32, head(3))
		}
		if d.Waits() != waits {
			t.Errorf("fuse %d: %d writes wait, want %d", fuse, d.Waits(), waits)
		}
		crash(t, d, slices.Repeat([]int{32}, waits)...)
		holds(t, fmt.Sprintf("fuse %d", fuse), d, 0, there)
	}
	d := diskOf(t, image)
	must(t, "Fuse", d.Fuse(sectors+3), api.OK)
	has(t, "a fuse of just as many", opened(t, d), 3, want)
	holds(t, "a fuse of just as many", d, 0, after)
	must(t, "Flush", d.Flush(), api.ErrOff)
}

// TestKe1OpenOne: of one turn that is whole its ledger is there, behind its operations, and laid in the other area.
func TestKe1OpenOne(t *testing.T) {
	l := busy(t)
	ops := []api.Op{receive("t", "x", 3), hold("t", "x", 3, 5), commit(6), expire(9), adjust("t", "x", 1)}
	for _, turn := range []int{1, 2, 3, 4, 255, 256, 65535, 65536, 1 << 24, lastTurn - 2, lastTurn - 1} {
		for n := range len(ops) + 1 {
			what := fmt.Sprintf("turn %d, %d operations", turn, n)
			opens(t, what, laid(t, signs(100), turn, with(l, ops[:n]...)...), turn, behind(t, l, ops[:n]...))
		}
		opens(t, "an empty ledger", laid(t, signs(100), turn, endRecord(0)), turn, api.Ledger{})
		opens(t, "operations alone", laid(t, signs(100), turn, with(api.Ledger{}, ops[0])...), turn, behind(t, api.Ledger{}, ops[0]))
	}
}

// TestKe1OpenFullArea: records that end where the area does are all there.
func TestKe1OpenFullArea(t *testing.T) {
	ops := []api.Op{receive("a name of 16 byt", "p", 2), expire(3), expire(4), expire(5), expire(6), expire(7), expire(8)}
	records := with(api.Ledger{}, ops...)
	image := signs(2 + 2*13)
	if from, to := area(image, 1); to-from != len(framedAll(1, records...)) {
		t.Fatalf("an area of %d bytes, records of %d", to-from, len(framedAll(1, records...)))
	}
	opens(t, "a log without room", laid(t, image, 1, records...), 1, behind(t, api.Ledger{}, ops...))
	opens(t, "the other one", laid(t, image, 2, records...), 2, behind(t, api.Ledger{}, ops...))
}

// TestKe1OpenTwo: of two turns that are whole the greater one is opened, whichever head it has.
func TestKe1OpenTwo(t *testing.T) {
	a, b := busy(t), behind(t, api.Ledger{}, receive("b", "b", 2))
	for _, turns := range [][2]int{{1, 2}, {2, 3}, {3, 2}, {8, 3}, {3, 8}, {255, 256}, {256, 255}, {lastTurn - 2, 2}, {2, lastTurn - 2}, {lastTurn - 1, lastTurn - 2}, {257, 512}, {1 << 24, 255}} {
		image := laid(t, signs(70), turns[0], recordsOf(a)...)
		image = laid(t, image, turns[1], with(b, hold("b", "b", 1, 1))...)
		want, turn := a, turns[0]
		if turns[1] > turn {
			want, turn = behind(t, b, hold("b", "b", 1, 1)), turns[1]
		}
		opens(t, fmt.Sprint("turns ", turns), image, turn, want)
	}
}

// noHeads are sectors that are the head of no turn, in the first or the second sector.
func noHeads(at int) map[string]string {
	out := map[string]string{
		"noughts":                    strings.Repeat("\x00", 32),
		"signs":                      signs(1),
		"the head of turn 0":         head(0),
		"a turn that is none":        head(1<<31 + at),
		"the greatest turn of bytes": head(1<<32 - 2 + at),
		"the other head's turn":      head(9 - at),
		"another sum":                upon(head(8+at), 4, sumOf("")),
		"the sum the other way":      little(uint32(8+at)) + reversed(sumOf(little(uint32(8+at)))) + strings.Repeat("\x00", 24),
		"the turn the other way":     reversed(little(uint32(8+at))) + head(8 + at)[4:],
		"another turn's sum":         head(8 + at)[:4] + head(10 + at)[4:],
	}
	for k := 8; k < 32; k++ {
		out[fmt.Sprintf("byte %d is no nought", k)] = upon(head(8+at), k, "\x01")
	}
	for k := range 8 {
		out[fmt.Sprintf("byte %d is another one", k)] = upon(head(8+at), k, string([]byte{head(8 + at)[k] ^ 1}))
	}
	return out
}

func reversed(s string) string {
	b := []byte(s)
	slices.Reverse(b)
	return string(b)
}

// TestKe1OpenNoHead: a turn whose head has not its bytes is not whole: the other one is opened, though it is the lesser one, or the empty ledger.
func TestKe1OpenNoHead(t *testing.T) {
	a, b := busy(t), behind(t, api.Ledger{}, receive("b", "b", 2))
	for at := range 2 {
		image := laid(t, signs(70), 8+at, recordsOf(b)...)
		for what, s := range noHeads(at) {
			opens(t, what+", alone", upon(image, at*32, s), 0, api.Ledger{})
			opens(t, what+", beside a lesser one", upon(laid(t, image, 7-at, recordsOf(a)...), at*32, s), 7-at, a)
		}
	}
}

// TestKe1OpenOtherHead: a turn whose bytes stand in the head that is not its own is not whole, though its records are there.
func TestKe1OpenOtherHead(t *testing.T) {
	for turn := 8; turn <= 9; turn++ {
		image := laid(t, signs(70), turn, recordsOf(busy(t))...)
		opens(t, "the other head", upon(upon(image, 0, signs(2)), (turn+1)%2*32, head(turn)), 0, api.Ledger{})
		opens(t, "both heads", upon(image, (turn+1)%2*32, head(turn)), turn, busy(t))
	}
}

// TestKe1OpenTurnZero: of the turn 0 there is no log, though all its bytes are there.
func TestKe1OpenTurnZero(t *testing.T) {
	opens(t, "turn 0", laid(t, signs(70), 0, recordsOf(busy(t))...), 0, api.Ledger{})
}

// notWhole are records that are not those of a ledger that may be and of operations, none of which is refused.
func notWhole(t *testing.T) map[string][]string {
	t.Helper()
	l := busy(t)
	all := recordsOf(l)
	n := len(all)
	s, h, m := len(l.Stocks), len(l.Holds), len(l.Moves)
	swap := func(a, b int) []string {
		out := slices.Clone(all)
		out[a], out[b] = out[b], out[a]
		return out
	}
	put := func(at int, record string) []string {
		out := slices.Clone(all)
		out[at] = record
		return out
	}
	then := func(records ...string) []string { return append(slices.Clone(all), records...) }
	return map[string][]string{
		"nothing":                     nil,
		"no end":                      all[:n-1],
		"an operation ahead":          append([]string{opRecord(receive("b", "b", 1))}, all...),
		"operations alone":            {opRecord(receive("b", "b", 1))},
		"an operation for the end":    put(n-1, opRecord(receive("b", "b", 1))),
		"two ends":                    then(endRecord(l.Ops)),
		"an end ahead":                append([]string{endRecord(0)}, all...),
		"a stock behind the end":      append(all[s:n:n], all[:s]...),
		"a movement behind the end":   append(all[:n-2:n-2], all[n-1], all[n-2]),
		"a hold ahead of a stock":     swap(s-1, s),
		"a movement ahead of a hold":  swap(s+h-1, s+h),
		"movements ahead of all":      append(append(slices.Clone(all[s+h:s+h+m]), all[:s+h]...), all[n-1]),
		"stocks the other way":        swap(0, 1),
		"holds the other way":         swap(s, s+1),
		"movements the other way":     swap(s+h, s+h+1),
		"a stock less":                all[1:],
		"a hold less":                 slices.Delete(slices.Clone(all), s, s+1),
		"a movement less":             slices.Delete(slices.Clone(all), n-2, n-1),
		"a stock twice":               append(all[:1:1], all...),
		"a letter alone":              put(0, "S"),
		"an end without a row":        put(n-1, "E"),
		"an end of no number":         put(n-1, "E"+row()),
		"an end of two numbers":       put(n-1, "E"+row(number(l.Ops), number(l.Ops))),
		"an end of a text":            put(n-1, "E"+row(text("12"))),
		"an end of null":              put(n-1, "E"+row("\x00")),
		"an end with a byte behind":   put(n-1, endRecord(l.Ops)+"\x00"),
		"an end that lacks a byte":    put(n-1, endRecord(l.Ops)[:10]),
		"an end of too few":           put(n-1, endRecord(-1)),
		"a small letter":              put(0, "s"+all[0][1:]),
		"another letter":              put(0, "X"+all[0][1:]),
		"a hold's letter":             put(0, "H"+all[0][1:]),
		"a stock's letter of a hold":  put(s, "S"+all[s][1:]),
		"a hold's of a movement":      put(s+h, "H"+all[s+h][1:]),
		"a movement's of a hold":      put(s, "M"+all[s][1:]),
		"an operation's of an end":    put(n-1, "O"+all[n-1][1:]),
		"a stock with a byte behind":  put(0, all[0]+"\x00"),
		"a stock of five values":      put(0, "S"+row(text("r"), text("x"), number(1), number(0), number(0))),
		"a stock with a null":         put(0, "S"+row(text("r"), text("x"), number(1), "\x00")),
		"a hold of another state":     put(s, "H"+row(number(1), text("s"), text("x"), number(2), text("gone"), "\x00")),
		"a hold due at 0":             put(s, "H"+row(number(1), text("s"), text("x"), number(2), text("out"), number(0))),
		"a movement of another kind":  put(s+h, "M"+row(number(1), text("s"), text("x"), number(9), text("hold"), "\x00")),
		"a movement of the hold 0":    put(s+h, "M"+row(number(1), text("s"), text("x"), number(9), text("receive"), number(0))),
		"bytes that are none":         put(0, "\x00\x00\x00"),
		"an operation's letter alone": then("O"),
		"an operation of bytes":       then("Oxyz"),
		"an operation with a byte":    then(opRecord(expire(1)) + "\x00"),
		"an operation's other letter": then("P" + opRecord(expire(1))[1:]),
		"an operation's small letter": then("o" + opRecord(expire(1))[1:]),
		"an operation that may not":   then(opRecord(receive("b", "b", 0))),
		"no such kind of operation":   then(opRecord(api.Op{Kind: 8, Sku: "b"})),
		"one that is short":           then(opRecord(hold("s", "x", 99, 0))),
		"one that is over":            then(opRecord(adjust("s", "x", api.MaxInt))),
		"one of a hold that is over":  then(opRecord(commit(1))),
		"one of a hold that is none":  then(opRecord(release(99))),
		"a good one, one refused":     then(opRecord(receive("b", "b", 1)), opRecord(transfer("b", "b", "c", 2))),
		"one refused, a good one":     then(opRecord(transfer("b", "b", "c", 2)), opRecord(receive("b", "b", 1))),
		"a hold out twice":            then(opRecord(commit(3)), opRecord(commit(3))),
		"a good one, a stock":         then(opRecord(receive("b", "b", 1)), all[0]),
		"too many operations":         append(put(n-1, endRecord(1<<62)), opRecord(expire(1))),
	}
}

// TestKe1OpenNotWhole: a turn whose records are others is not whole, though its head is: the lesser one is opened, or the empty ledger.
func TestKe1OpenNotWhole(t *testing.T) {
	other := behind(t, api.Ledger{}, receive("b", "b", 2))
	for what, records := range notWhole(t) {
		for turn := 6; turn <= 7; turn++ {
			image := laid(t, signs(80), turn, records...)
			opens(t, what+", alone", image, 0, api.Ledger{})
			opens(t, what+", beside a lesser one", laid(t, image, turn-3, with(other, expire(1))...), turn-3, behind(t, other, expire(1)))
			greater := behind(t, other, receive("c", "c", 1))
			opens(t, what+", beside a greater one", laid(t, image, turn+1, recordsOf(greater)...), turn+1, greater)
		}
	}
}

// TestKe1OpenMayNot: records of a ledger that may not be, each one of which is a record.
func TestKe1OpenMayNot(t *testing.T) {
	for what, l := range bent(t) {
		opens(t, what, laid(t, signs(80), 5, recordsOf(l)...), 0, api.Ledger{})
		opens(t, what+", beside a lesser one", laid(t, laid(t, signs(80), 2, recordsOf(busy(t))...), 5, recordsOf(l)...), 2, busy(t))
	}
}

// TestKe1OpenBothNot: of two that are both not whole none is opened.
func TestKe1OpenBothNot(t *testing.T) {
	image := laid(t, signs(80), 6, recordsOf(busy(t))[1:]...)
	opens(t, "both", laid(t, image, 7, opRecord(expire(1))), 0, api.Ledger{})
	whole := laid(t, laid(t, signs(80), 6, recordsOf(busy(t))...), 7, endRecord(4))
	opens(t, "both heads gone", upon(whole, 0, signs(2)), 0, api.Ledger{})
	from, _ := area(whole, 7)
	opens(t, "an area of the other turn", upon(whole, from, framed(6, endRecord(4))), 6, busy(t))
	opens(t, "an area of an older turn", upon(whole, from, framed(5, endRecord(4))), 6, busy(t))
}

// TestKe1OpenEachByte: of a disk with two whole turns each byte is another one, one at a time: what is told then hangs on where it lies.
func TestKe1OpenEachByte(t *testing.T) {
	lesser, greater := behind(t, api.Ledger{}, receive("a", "x", 1)), behind(t, api.Ledger{}, receive("b", "y", 2))
	ops := []api.Op{hold("b", "y", 1, 4), release(1)}
	base := laid(t, laid(t, strings.Repeat("\x00", 32*21), 3, recordsOf(lesser)...), 4, with(greater, ops...)...)
	from, _ := area(base, 4)
	ends := []int{from + len(framedAll(4, recordsOf(greater)...))}
	for n := range ops {
		ends = append(ends, from+len(framedAll(4, with(greater, ops[:n+1]...)...)))
	}
	for k := range base {
		want, turn := behind(t, greater, ops...), 4
		switch {
		case k < 32 || k >= from && k < ends[0]:
			want, turn = lesser, 3
		case k >= ends[0] && k < ends[1]:
			want = greater
		case k >= ends[1] && k < ends[2]:
			want = behind(t, greater, ops[0])
		}
		for _, bit := range []byte{1, 128} {
			opens(t, fmt.Sprintf("byte %d by %d", k, bit), upon(base, k, string([]byte{base[k] ^ bit})), turn, want)
		}
	}
}

// TestKe1OpenFull: a ledger that has no room in an area is refused, though its operations have; nothing is written, and no lesser turn is taken.
func TestKe1OpenFull(t *testing.T) {
	ops := []api.Op{receive("s", "x", 9)}
	for n := range 12 {
		ops = append(ops, transfer("s", "x", fmt.Sprint("to", n%3), 1), transfer("s", fmt.Sprint("to", n%3), "x", 1))
		records := with(api.Ledger{}, ops...)
		l := behind(t, api.Ledger{}, ops...)
		size := len(framedAll(1, records...))
		need := len(framedAll(1, recordsOf(l)...))
		for sectors := (size + 31) / 32; sectors <= (need+31)/32; sectors++ {
			image := laid(t, laid(t, signs(2+2*sectors), 4, endRecord(3)), 9, records...)
			what := fmt.Sprintf("%d bytes in %d sectors", need, sectors)
			if need <= sectors*32 {
				opens(t, what, image, 9, l)
				continue
			}
			d := diskOf(t, image)
			refusesOpen(t, what, d, api.ErrFull)
			holds(t, what, d, 0, image)
			must(t, "Fuse", d.Fuse(0), api.OK)
			refusesOpen(t, what+", no fuse left", d, api.ErrFull)
			if d.Off() {
				t.Errorf("%s: the power is off", what)
			}
		}
	}
}

// TestKe1OpenJustRoom: an area that a ledger's records fill to the last byte has room for them, one of a byte less has not.
func TestKe1OpenJustRoom(t *testing.T) {
	for sku := 1; sku <= 64; sku++ {
		for _, loc := range []int{1, 2, 7, 64} {
			l := behind(t, api.Ledger{}, receive(strings.Repeat("s", sku), strings.Repeat("l", loc), 1))
			size := len(framedAll(1, recordsOf(l)...))
			if size%32 > 1 {
				continue
			}
			roomy := 2 + 2*(size/32)
			o := receive(strings.Repeat("s", sku), strings.Repeat("l", loc), 1)
			image := laid(t, signs(roomy), 1, with(api.Ledger{}, o)...)
			if size%32 == 0 {
				opens(t, fmt.Sprint(size, " bytes"), image, 1, l)
			} else {
				refusesOpen(t, fmt.Sprint(size, " bytes"), diskOf(t, image), api.ErrFull)
			}
		}
	}
}

// TestKe1OpenLastTurn: behind the turn 2^31 - 1 there is none.
func TestKe1OpenLastTurn(t *testing.T) {
	image := laid(t, signs(70), lastTurn, recordsOf(busy(t))...)
	image = laid(t, image, lastTurn-1, endRecord(0))
	d := diskOf(t, image)
	refusesOpen(t, "the last turn", d, api.ErrFull)
	holds(t, "the last turn", d, 0, image)
	from, _ := area(image, lastTurn)
	opens(t, "the last turn, not whole", upon(image, from, "x"), lastTurn-1, api.Ledger{})
	opens(t, "the one ahead", upon(image, 32, signs(1)), lastTurn-1, api.Ledger{})
}

// TestKe1OpenWritten: what was written and is not sure is opened too, and is sure then.
func TestKe1OpenWritten(t *testing.T) {
	d := newDisk(t, 60)
	submits(t, opened(t, d), receive("s", "x", 3), hold("s", "x", 1, 0))
	k := opened(t, d)
	crash(t, d)
	want := behind(t, api.Ledger{}, receive("s", "x", 3), hold("s", "x", 1, 0))
	has(t, "opened", k, 2, want)
	has(t, "opened again", opened(t, d), 3, want)
}

// piece is a record of any kind, and what it is of.
type piece struct {
	record string
	into   func(l *api.Ledger) // of a ledger's
	op     api.Op
}

// pieces are those of a ledger, in their order.
func pieces(l api.Ledger) []piece {
	var out []piece
	for _, s := range l.Stocks {
		out = append(out, piece{record: stockRecord(s), into: func(l *api.Ledger) { l.Stocks = append(l.Stocks, s) }})
	}
	for _, h := range l.Holds {
		out = append(out, piece{record: holdRecord(h), into: func(l *api.Ledger) { l.Holds = append(l.Holds, h) }})
	}
	for _, m := range l.Moves {
		out = append(out, piece{record: moveRecord(m), into: func(l *api.Ledger) { l.Moves = append(l.Moves, m) }})
	}
	return append(out, piece{record: endRecord(l.Ops), into: func(all *api.Ledger) { all.Ops = l.Ops }})
}

// wholeOf is the ledger of a turn of such pieces, and whether that turn is whole: letter by letter.
func wholeOf(all []piece) (api.Ledger, bool) {
	var l api.Ledger
	letters := ""
	for _, p := range all {
		letters += p.record[:1]
	}
	if !regexp.MustCompile("^S*H*M*EO*$").MatchString(letters) {
		return l, false
	}
	end := strings.Index(letters, "E")
	for _, p := range all[:end+1] {
		p.into(&l)
	}
	if ledger.Check(l) != api.OK {
		return l, false
	}
	for _, p := range all[end+1:] {
		next, e := ledger.Apply(l, p.op)
		if e != api.OK {
			return l, false
		}
		l = next
	}
	return l, true
}

// TestKe1OpenRandom: of two turns with records of any kind, some of them in their order, the ledger is told that the document's words lead to.
func TestKe1OpenRandom(t *testing.T) {
	counts := map[bool]int{}
	for seed := range 600 {
		x := dice(88172645463325252 + 104729*seed)
		image := signs(140)
		want, turn := api.Ledger{}, 0
		for _, one := range []int{2 * (1 + x.below(40)), 2*x.below(40) + 1} {
			l := behind(t, api.Ledger{}, receive("s", "x", 1+x.below(5)), hold("s", "x", 1, x.below(3)))
			pool := pieces(l)
			var all []piece
			if x.below(3) > 0 {
				all = pieces(l)
			}
			for range x.below(5) {
				o := x.op(1)
				all = append(all, piece{record: opRecord(o), op: o})
			}
			if x.below(4) == 0 {
				all = slices.Insert(all, x.below(len(all)+1), pick(&x, pool...))
			}
			var records []string
			for _, p := range all {
				records = append(records, p.record)
			}
			image = laid(t, image, one, records...)
			l, ok := wholeOf(all)
			counts[ok]++
			if ok && one > turn {
				want, turn = l, one
			}
		}
		opens(t, fmt.Sprint("run ", seed), image, turn, want)
	}
	if counts[true] < 100 || counts[false] < 100 {
		t.Errorf("%d turns were whole, %d not", counts[true], counts[false])
	}
}
