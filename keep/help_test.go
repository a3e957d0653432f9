package keep_test

import (
	"encoding/binary"
	"fmt"
	"hash/crc32"
	"slices"
	"strings"
	"testing"

	"quayside/api"
	"quayside/disk"
	"quayside/keep"
	"quayside/ledger"
)

const lastTurn = 1<<31 - 1

// The bytes of the document, told anew by the library's means.

func number(n int) string {
	return "\x01" + string(binary.BigEndian.AppendUint64(nil, uint64(n)+1<<63))
}

func numberOrNull(n int) string {
	if n == 0 {
		return "\x00"
	}
	return number(n)
}

func text(s string) string { return "\x02" + string([]byte{byte(len(s))}) + s }

func row(values ...string) string {
	return string([]byte{byte(len(values))}) + strings.Join(values, "")
}

func little(n uint32) string { return string(binary.LittleEndian.AppendUint32(nil, n)) }

func sumOf(s string) string { return little(crc32.ChecksumIEEE([]byte(s))) }

func framed(turn int, record string) string {
	head := little(uint32(turn)) + little(uint32(len(record)))[:2]
	return head + sumOf(head+record) + record
}

func framedAll(turn int, records ...string) string {
	s := ""
	for _, r := range records {
		s += framed(turn, r)
	}
	return s
}

func head(turn int) string {
	s := little(uint32(turn))
	return s + sumOf(s) + strings.Repeat("\x00", 24)
}

func stockRecord(s api.Stock) string {
	return "S" + row(text(s.Sku), text(s.Loc), number(s.OnHand), number(s.Held))
}

func holdRecord(h api.Hold) string {
	state := []string{"active", "out", "up"}[h.State]
	return "H" + row(number(h.Id), text(h.Sku), text(h.Loc), number(h.Qty), text(state), numberOrNull(h.Due))
}

func moveRecord(m api.Move) string {
	kind := map[int]string{api.OpReceive: "receive", api.OpCommit: "commit", api.OpTransfer: "transfer", api.OpAdjust: "adjust"}[m.Kind]
	return "M" + row(number(m.Seq), text(m.Sku), text(m.Loc), number(m.Delta), text(kind), numberOrNull(m.Hold))
}

func endRecord(ops int) string { return "E" + row(number(ops)) }

func opRecord(o api.Op) string {
	return "O" + row(number(o.Kind), text(o.Sku), text(o.Loc), text(o.To), number(o.Qty), number(o.Id), number(o.Due))
}

func recordsOf(l api.Ledger) []string {
	var records []string
	for _, s := range l.Stocks {
		records = append(records, stockRecord(s))
	}
	for _, h := range l.Holds {
		records = append(records, holdRecord(h))
	}
	for _, m := range l.Moves {
		records = append(records, moveRecord(m))
	}
	return append(records, endRecord(l.Ops))
}

// with are the records of a ledger, and of operations behind it.
func with(l api.Ledger, ops ...api.Op) []string {
	records := recordsOf(l)
	for _, o := range ops {
		records = append(records, opRecord(o))
	}
	return records
}

// Operations.

func receive(sku, loc string, qty int) api.Op {
	return api.Op{Kind: api.OpReceive, Sku: sku, Loc: loc, Qty: qty}
}

func hold(sku, loc string, qty, due int) api.Op {
	return api.Op{Kind: api.OpHold, Sku: sku, Loc: loc, Qty: qty, Due: due}
}

func commit(id int) api.Op { return api.Op{Kind: api.OpCommit, Id: id} }

func release(id int) api.Op { return api.Op{Kind: api.OpRelease, Id: id} }

func expire(due int) api.Op { return api.Op{Kind: api.OpExpire, Due: due} }

func transfer(sku, loc, to string, qty int) api.Op {
	return api.Op{Kind: api.OpTransfer, Sku: sku, Loc: loc, To: to, Qty: qty}
}

func adjust(sku, loc string, qty int) api.Op {
	return api.Op{Kind: api.OpAdjust, Sku: sku, Loc: loc, Qty: qty}
}

// Ledgers.

// behind is a ledger behind operations that are all taken.
func behind(t *testing.T, l api.Ledger, ops ...api.Op) api.Ledger {
	t.Helper()
	l, n, e := ledger.Replay(l, ops)
	if e != api.OK {
		t.Fatalf("%+v is refused by %d", ops[n], e)
	}
	return l
}

// busy is a ledger behind each kind of operation, with holds of each state, a hold that is for good, and movements of each kind.
func busy(t *testing.T) api.Ledger {
	t.Helper()
	return behind(t, api.Ledger{}, receive("s", "x", 9), receive("r", "x", 5), hold("s", "x", 2, 0), hold("s", "x", 1, 7), hold("s", "x", 1, 8),
		commit(1), release(2), transfer("s", "x", "w", 3), adjust("r", "x", -4), hold("r", "x", 1, 3), expire(3), hold("s", "w", 2, 0))
}

func same(a, b api.Ledger) bool {
	return slices.Equal(a.Stocks, b.Stocks) && slices.Equal(a.Holds, b.Holds) && slices.Equal(a.Moves, b.Moves) && a.Ops == b.Ops
}

func short(l api.Ledger) string { return fmt.Sprintf("%.600s", fmt.Sprintf("%+v", l)) }

func copied(l api.Ledger) api.Ledger {
	return api.Ledger{Stocks: slices.Clone(l.Stocks), Holds: slices.Clone(l.Holds), Moves: slices.Clone(l.Moves), Ops: l.Ops}
}

// Disks.

func must(t *testing.T, what string, got, want api.Errno) {
	t.Helper()
	if got != want {
		t.Errorf("%s: error %d, want %d", what, got, want)
	}
}

func newDisk(t *testing.T, n int) *disk.Disk {
	t.Helper()
	d, e := disk.New(n)
	must(t, fmt.Sprintf("New(%d)", n), e, api.OK)
	return d
}

// signs are bytes of n sectors that are neither noughts nor records.
func signs(n int) string { return strings.Repeat("0123456789abcdefghijklmnopqrstuv", n) }

// diskOf is a disk of bytes, all of them sure.
func diskOf(t *testing.T, image string) *disk.Disk {
	t.Helper()
	d := newDisk(t, len(image)/32)
	for at := range d.Size() {
		must(t, fmt.Sprintf("Write(%d)", at), d.Write(at, image[at*32:at*32+32]), api.OK)
	}
	must(t, "Flush", d.Flush(), api.OK)
	return d
}

// bytesOf is a whole disk.
func bytesOf(t *testing.T, d *disk.Disk) string {
	t.Helper()
	s := ""
	for at := range d.Size() {
		sector, e := d.Read(at)
		if e != api.OK {
			t.Fatalf("Read(%d): error %d", at, e)
		}
		s += sector
	}
	return s
}

// upon is a text with another one laid upon it, from a byte on.
func upon(under string, at int, s string) string { return under[:at] + s + under[at+len(s):] }

// area is where a turn's area begins and ends on a disk of so many bytes, in bytes.
func area(image string, turn int) (int, int) {
	h := (len(image)/32 - 2) / 2
	if turn%2 == 0 {
		return 2 * 32, (2 + h) * 32
	}
	return (2 + h) * 32, (2 + h + h) * 32
}

// laid is a disk with a turn's head, and records in its area, noughts behind them.
func laid(t *testing.T, image string, turn int, records ...string) string {
	t.Helper()
	from, to := area(image, turn)
	s := framedAll(turn, records...)
	if len(s) > to-from {
		t.Fatalf("%d bytes of records, room for %d", len(s), to-from)
	}
	image = upon(image, from, s+strings.Repeat("\x00", to-from-len(s)))
	return upon(image, turn%2*32, head(turn))
}

func opened(t *testing.T, d *disk.Disk) *keep.Keep {
	t.Helper()
	k, e := keep.Open(d)
	if k == nil || e != api.OK {
		t.Fatalf("Open: %v, error %d", k, e)
	}
	return k
}

func refusesOpen(t *testing.T, what string, d *disk.Disk, want api.Errno) {
	t.Helper()
	if k, e := keep.Open(d); k != nil || e != want {
		t.Errorf("%s: Open: %v, error %d, want none, error %d", what, k, e, want)
	}
}

func submits(t *testing.T, k *keep.Keep, ops ...api.Op) {
	t.Helper()
	for _, o := range ops {
		must(t, fmt.Sprintf("Submit(%+v)", o), k.Submit(o), api.OK)
	}
}

func syncs(t *testing.T, k *keep.Keep) {
	t.Helper()
	must(t, "Sync", k.Sync(), api.OK)
}

func checkpoints(t *testing.T, k *keep.Keep) {
	t.Helper()
	must(t, "Checkpoint", k.Checkpoint(), api.OK)
}

func crash(t *testing.T, d *disk.Disk, kept ...int) {
	t.Helper()
	must(t, "Crash", d.Crash(kept), api.OK)
}

// putOff lets the power of a disk go off, and writes nothing.
func putOff(t *testing.T, d *disk.Disk) {
	t.Helper()
	must(t, "Fuse(0)", d.Fuse(0), api.OK)
	must(t, "Flush", d.Flush(), api.ErrOff)
}

// has tells a keep's ledger and turn.
func has(t *testing.T, what string, k *keep.Keep, turn int, l api.Ledger) {
	t.Helper()
	if got := k.Ledger(); !same(got, l) {
		t.Errorf("%s: Ledger: %s, want %s", what, short(got), short(l))
	}
	if got := k.Turn(); got != turn {
		t.Errorf("%s: Turn: %d, want %d", what, got, turn)
	}
}

// holds tells a disk's bytes, and how many of its writes are not sure.
func holds(t *testing.T, what string, d *disk.Disk, waits int, want string) {
	t.Helper()
	if got := d.Waits(); got != waits {
		t.Errorf("%s: %d writes wait, want %d", what, got, waits)
	}
	got := bytesOf(t, d)
	for at := range len(want) / 32 {
		if a, b := got[at*32:at*32+32], want[at*32:at*32+32]; a != b {
			t.Errorf("%s: sector %d is %q, want %q", what, at, a, b)
		}
	}
}

// opens tells that of a disk of bytes the ledger of a turn is opened, and laid as the next turn, with nothing else written.
func opens(t *testing.T, what, image string, turn int, l api.Ledger) {
	t.Helper()
	d := diskOf(t, image)
	has(t, what, opened(t, d), turn+1, l)
	holds(t, what, d, 0, laid(t, image, turn+1, recordsOf(l)...))
}

// Numbers that look like any.

type dice uint64

func (x *dice) below(n int) int {
	*x ^= *x << 13
	*x ^= *x >> 7
	*x ^= *x << 17
	return int(uint64(*x) >> 20 % uint64(n))
}

func pick[T any](x *dice, of ...T) T { return of[x.below(len(of))] }

// op is any operation of few names; some of them are refused.
func (x *dice) op(holds int) api.Op {
	sku, loc, to := pick(x, "s", "t", "a longer one"), pick(x, "x", "y"), pick(x, "x", "w")
	switch id := 1 + x.below(holds+1); x.below(10) {
	case 0, 1:
		return receive(sku, loc, x.below(9))
	case 2, 3:
		return hold(sku, loc, x.below(4), x.below(6))
	case 4:
		return commit(id)
	case 5:
		return release(id)
	case 6:
		return expire(x.below(6) - 1)
	case 7, 8:
		return transfer(sku, loc, to, x.below(4))
	}
	return adjust(sku, loc, pick(x, x.below(9)-4, api.MaxInt, api.MinInt))
}
