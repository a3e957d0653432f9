package keep_test

import (
	"fmt"
	"strings"
	"testing"

	"quayside/api"
	"quayside/disk"
	"quayside/keep"
	"quayside/ledger"
)

// model is a keep that works the whole disk out from what was laid, and what was submitted behind it.
type model struct {
	image  string
	turn   int
	ledger api.Ledger
	log    string
}

func (m *model) room() int {
	from, to := area(m.image, 0)
	return to - from
}

// lay is what Checkpoint answers with the power on, and what Open does with what it found.
func (m *model) lay(t *testing.T) api.Errno {
	t.Helper()
	if m.turn == lastTurn || len(framedAll(1, recordsOf(m.ledger)...)) > m.room() {
		return api.ErrFull
	}
	m.turn++
	m.image = laid(t, m.image, m.turn, recordsOf(m.ledger)...)
	m.log = framedAll(m.turn, recordsOf(m.ledger)...)
	return api.OK
}

// submit is what Submit answers with the power on, and how many sectors it writes.
func (m *model) submit(o api.Op) (api.Errno, int) {
	next, e := ledger.Apply(m.ledger, o)
	if e != api.OK {
		return e, 0
	}
	record := framed(m.turn, opRecord(o))
	if len(framedAll(1, recordsOf(next)...)) > m.room() || len(m.log)+len(record) > m.room() {
		return api.ErrFull, 0
	}
	from, _ := area(m.image, m.turn)
	start, end := len(m.log)/32, (len(m.log)+len(record)-1)/32
	m.image = upon(m.image, from+len(m.log), record)
	m.log += record
	m.ledger = next
	return api.OK, end - start + 1
}

// modelled is a keep on a disk of signs, and its model.
func modelled(t *testing.T, n int) (*disk.Disk, *keep.Keep, *model) {
	t.Helper()
	m := &model{image: signs(n)}
	d := diskOf(t, m.image)
	must(t, "the model's own", m.lay(t), api.OK)
	return d, opened(t, d), m
}

// TestKe2Example: Submit a, Sync, Submit b, a crash in which nothing survives: a.
func TestKe2Example(t *testing.T) {
	d := newDisk(t, 100)
	k := opened(t, d)
	submits(t, k, receive("a", "x", 1))
	syncs(t, k)
	submits(t, k, receive("b", "x", 1))
	crash(t, d)
	has(t, "behind the crash", opened(t, d), 2, behind(t, api.Ledger{}, receive("a", "x", 1)))
}

// TestKe2Kinds: each kind of operation as it is taken: the ledger, the bytes behind the others, the sectors that are written.
func TestKe2Kinds(t *testing.T) {
	d, k, m := modelled(t, 121)
	for _, o := range []api.Op{receive("s", "x", 9), hold("s", "x", 3, 0), hold("s", "x", 2, 5), hold("s", "x", 1, 6), hold("s", "x", 1, 9),
		commit(1), release(2), expire(6), transfer("s", "x", "y", 4), adjust("s", "x", -1), adjust("s", "z", 7), expire(0), receive(strings.Repeat("n", 64), strings.Repeat("p", 64), api.MaxInt)} {
		before := d.Waits()
		e, writes := m.submit(o)
		must(t, "the model's own", e, api.OK)
		must(t, fmt.Sprintf("Submit(%+v)", o), k.Submit(o), api.OK)
		has(t, fmt.Sprintf("behind %+v", o), k, 1, m.ledger)
		holds(t, fmt.Sprintf("behind %+v", o), d, before+writes, m.image)
	}
	if l := k.Ledger(); l.Ops != 13 || len(l.Stocks) != 4 || len(l.Holds) != 4 || len(l.Moves) != 7 {
		t.Errorf("the ledger is %s", short(l))
	}
}

// TestKe2Bytes: the record of an operation, byte by byte, behind those of the ledger.
func TestKe2Bytes(t *testing.T) {
	d := newDisk(t, 20)
	submits(t, opened(t, d), expire(258))
	record := "O\x07" + "\x01\x80\x00\x00\x00\x00\x00\x00\x05" + "\x02\x00" + "\x02\x00" + "\x02\x00" +
		"\x01\x80\x00\x00\x00\x00\x00\x00\x00" + "\x01\x80\x00\x00\x00\x00\x00\x00\x00" + "\x01\x80\x00\x00\x00\x00\x00\x01\x02"
	ahead := "\x01\x00\x00\x00\x2c\x00"
	want := ahead + sumOf(ahead+record) + record + "\x00"
	from, _ := area(signs(20), 1)
	if got := bytesOf(t, d)[from+21:]; !strings.HasPrefix(got, want) {
		t.Errorf("behind the ledger lies %q, want %q", got, want)
	}
}

// TestKe2Refused: what layer 7 refuses is refused so, and nothing is written.
func TestKe2Refused(t *testing.T) {
	d, k, m := modelled(t, 100)
	for _, o := range []api.Op{receive("s", "x", 9), hold("s", "x", 3, 0), hold("s", "x", 3, 0), commit(1), release(2), receive("t", "x", api.MaxInt)} {
		m.submit(o)
		submits(t, k, o)
	}
	syncs(t, k)
	long := strings.Repeat("n", 65)
	for _, c := range []struct {
		o    api.Op
		want api.Errno
	}{
		{api.Op{}, api.ErrArg}, {api.Op{Kind: 8}, api.ErrArg}, {api.Op{Kind: api.MinInt}, api.ErrArg}, {receive("", "x", 1), api.ErrArg}, {receive(long, "x", 1), api.ErrArg}, {receive("s", "x", 0), api.ErrArg},
		{hold("s", "x", 1, -1), api.ErrArg}, {commit(0), api.ErrArg}, {release(-1), api.ErrArg}, {expire(-1), api.ErrArg}, {transfer("s", "x", "x", 1), api.ErrArg}, {adjust("s", "x", 0), api.ErrArg},
		{receive("t", "x", 1), api.ErrOver}, {transfer("t", "y", "x", 1), api.ErrStock}, {adjust("t", "x", 1), api.ErrOver}, {hold("s", "x", 7, 0), api.ErrStock}, {hold("u", "x", 1, 0), api.ErrStock},
		{commit(1), api.ErrHold}, {commit(2), api.ErrHold}, {commit(3), api.ErrHold}, {release(1), api.ErrHold}, {release(2), api.ErrHold}, {release(api.MaxInt), api.ErrHold},
		{transfer("s", "x", "y", 7), api.ErrStock}, {adjust("s", "x", -7), api.ErrStock}, {adjust("s", "x", api.MinInt), api.ErrStock},
	} {
		must(t, fmt.Sprintf("Submit(%.99v)", c.o), k.Submit(c.o), c.want)
		has(t, fmt.Sprintf("behind %.99v", c.o), k, 1, m.ledger)
		holds(t, fmt.Sprintf("behind %.99v", c.o), d, 0, m.image)
	}
}

// TestKe2RefusedOps: of a ledger of as many operations as there may be each one is refused by layer 7's ErrFull.
func TestKe2RefusedOps(t *testing.T) {
	for _, ops := range []int{1<<62 - 1, 1 << 62} {
		k := opened(t, diskOf(t, laid(t, signs(60), 1, endRecord(ops))))
		want := api.OK
		if ops == 1<<62 {
			want = api.ErrFull
		}
		must(t, fmt.Sprint("Submit behind ", ops), k.Submit(expire(1)), want)
		must(t, "Submit again", k.Submit(expire(1)), api.ErrFull)
	}
}

// TestKe2NoRoomForLedger: an operation whose record has room, but not the ledger behind it, is refused, byte by byte of what is left.
func TestKe2NoRoomForLedger(t *testing.T) {
	seen := map[api.Errno]int{}
	for sku := 1; sku <= 40; sku++ {
		name := strings.Repeat("s", sku)
		l := behind(t, api.Ledger{}, receive(name, "x", 9), adjust(name, "y", 2))
		for _, o := range []api.Op{transfer(name, "x", "y", 1), transfer(name, "x", "z", 1), hold(name, "x", 1, 0), hold(name, "x", 1, 7), receive(name, "x", 1), receive("n", "x", 1), adjust(name, "x", 5)} {
			size := len(framedAll(1, recordsOf(l)...))
			for sectors := (size + 31) / 32; sectors <= size/32+8; sectors++ {
				m := &model{image: laid(t, signs(2+2*sectors), 1, recordsOf(l)...), turn: 1, ledger: l}
				d := diskOf(t, m.image)
				must(t, "the model's own", m.lay(t), api.OK)
				k := opened(t, d)
				want, writes := m.submit(o)
				seen[want]++
				what := fmt.Sprintf("%+v, %d sectors", o, sectors)
				must(t, what, k.Submit(o), want)
				has(t, what, k, 2, m.ledger)
				holds(t, what, d, writes, m.image)
				roomForOp := size+len(framed(2, opRecord(o))) <= m.room()
				if want == api.ErrFull && roomForOp {
					seen[-1]++
				}
			}
		}
	}
	if seen[api.OK] < 50 || seen[api.ErrFull] < 50 || seen[-1] < 50 {
		t.Errorf("too few of a kind: %v", seen)
	}
}

// TestKe2NoRoomForRecord: operations that leave nothing fill the log, to its last byte; a checkpoint makes room.
func TestKe2NoRoomForRecord(t *testing.T) {
	for n := 6; n < 60; n++ {
		d, k, m := modelled(t, n)
		done := (m.room() - 21) / 54
		for range done {
			m.submit(expire(1))
			submits(t, k, expire(1))
		}
		what := fmt.Sprint(n, " sectors")
		waits := d.Waits()
		must(t, what, k.Submit(expire(1)), api.ErrFull)
		must(t, what+", a hold that is none", k.Submit(commit(1)), api.ErrHold)
		has(t, what, k, 1, api.Ledger{Ops: done})
		holds(t, what, d, waits, m.image)
		checkpoints(t, k)
		m.lay(t)
		holds(t, what+", laid", d, 0, m.image)
		want, _ := m.submit(expire(1))
		must(t, what+", laid", k.Submit(expire(1)), want)
		has(t, what+", laid", k, 2, m.ledger)
	}
}

// TestKe2NoRoomOff: a record that has no room is told so while the power is off, too.
func TestKe2NoRoomOff(t *testing.T) {
	d, k, m := modelled(t, 20)
	for range (m.room() - 21) / 54 {
		submits(t, k, expire(1))
	}
	putOff(t, d)
	must(t, "Submit", k.Submit(expire(1)), api.ErrFull)
	must(t, "Checkpoint", k.Checkpoint(), api.ErrOff)
}

// TestKe2LastByte: an operation's record that ends where the area does has room, one of a byte more has none.
func TestKe2LastByte(t *testing.T) {
	for more, want := range []api.Errno{api.OK, api.ErrFull} {
		d, k, m := modelled(t, 2+2*13)
		submits(t, k, expire(3), expire(4), expire(5), expire(6), expire(7), expire(8))
		for due := range 6 {
			m.submit(expire(3 + due))
		}
		o := receive("a name of 16 byt"+strings.Repeat("e", more), "p", 2)
		waits := d.Waits()
		e, writes := m.submit(o)
		must(t, "the model's own", e, want)
		must(t, "Submit", k.Submit(o), want)
		holds(t, "Submit", d, waits+writes, m.image)
		if want == api.OK && len(m.log) != m.room() {
			t.Errorf("%d bytes of %d", len(m.log), m.room())
		}
	}
}

// TestKe2Sync: behind a sync what was done survives, behind it not; nothing but a flush is done.
func TestKe2Sync(t *testing.T) {
	d, k, m := modelled(t, 100)
	m.submit(receive("s", "x", 9))
	submits(t, k, receive("s", "x", 9))
	syncs(t, k)
	holds(t, "synced", d, 0, m.image)
	has(t, "synced", k, 1, m.ledger)
	must(t, "Fuse", d.Fuse(1), api.OK)
	syncs(t, k)
	must(t, "Sync without a fuse", k.Sync(), api.ErrOff)
	crash(t, d)
	has(t, "behind a crash", opened(t, d), 2, m.ledger)
}

// TestKe2Checkpoint: the ledger is laid, its area noughts behind it, without the operations; at each writing the power may go off.
func TestKe2Checkpoint(t *testing.T) {
	d, k, m := modelled(t, 80)
	for turn := 2; turn <= 7; turn++ {
		for _, o := range []api.Op{receive("s", "x", 2), expire(4), hold("s", "x", 1, 0)} {
			m.submit(o)
			submits(t, k, o)
		}
		checkpoints(t, k)
		m.lay(t)
		has(t, "laid", k, turn, m.ledger)
		holds(t, "laid", d, 0, m.image)
	}
	sectors := m.room() / 32
	for fuse := range sectors + 3 {
		d := diskOf(t, m.image)
		k := opened(t, d)
		submits(t, k, receive("t", "x", 1))
		want, turn := k.Ledger(), k.Turn()
		must(t, "Fuse", d.Fuse(fuse), api.OK)
		must(t, fmt.Sprint("Checkpoint, fuse ", fuse), k.Checkpoint(), api.ErrOff)
		has(t, fmt.Sprint("fuse ", fuse), k, turn, want)
	}
	must(t, "Fuse", d.Fuse(sectors+3), api.OK)
	checkpoints(t, k)
	must(t, "Sync", k.Sync(), api.ErrOff)
}

// TestKe2CheckpointGoesOn: behind a checkpoint operations are logged behind the ledger in the new area, and survive there.
func TestKe2CheckpointGoesOn(t *testing.T) {
	d := newDisk(t, 60)
	k := opened(t, d)
	submits(t, k, receive("s", "x", 9))
	checkpoints(t, k)
	submits(t, k, hold("s", "x", 2, 0))
	checkpoints(t, k)
	submits(t, k, commit(1))
	syncs(t, k)
	submits(t, k, receive("lost", "x", 1))
	crash(t, d)
	has(t, "behind a crash", opened(t, d), 4, behind(t, api.Ledger{}, receive("s", "x", 9), hold("s", "x", 2, 0), commit(1)))
}

// TestKe2LastTurn: behind the turn 2^31 - 1 nothing is laid any more, with the power on or off; operations are still done, and opened no more.
func TestKe2LastTurn(t *testing.T) {
	image := laid(t, signs(60), lastTurn-1, recordsOf(busy(t))...)
	d := diskOf(t, image)
	k := opened(t, d)
	has(t, "opened", k, lastTurn, busy(t))
	submits(t, k, receive("t", "x", 1))
	syncs(t, k)
	was := bytesOf(t, d)
	must(t, "Checkpoint", k.Checkpoint(), api.ErrFull)
	has(t, "refused", k, lastTurn, behind(t, busy(t), receive("t", "x", 1)))
	holds(t, "refused", d, 0, was)
	submits(t, k, expire(3))
	refusesOpen(t, "the last turn", d, api.ErrFull)
	putOff(t, d)
	must(t, "Checkpoint, off", k.Checkpoint(), api.ErrFull)
	must(t, "Submit, off", k.Submit(expire(4)), api.ErrOff)
}

// TestKe2Off: each call while the power is off: ErrOff comes behind what layer 7 says, and behind ErrFull; what is known is told.
func TestKe2Off(t *testing.T) {
	d, k, m := modelled(t, 22)
	for _, o := range []api.Op{receive("s", "x", 9), hold("s", "x", 1, 0)} {
		m.submit(o)
		submits(t, k, o)
	}
	syncs(t, k)
	putOff(t, d)
	for range 2 {
		must(t, "Submit", k.Submit(expire(1)), api.ErrOff)
		must(t, "Submit", k.Submit(commit(1)), api.ErrOff)
		must(t, "Submit, which may not be", k.Submit(api.Op{}), api.ErrArg)
		must(t, "Submit, short", k.Submit(hold("s", "x", 9, 0)), api.ErrStock)
		must(t, "Submit, of no hold", k.Submit(release(2)), api.ErrHold)
		must(t, "Submit, over", k.Submit(receive("s", "x", api.MaxInt)), api.ErrOver)
		must(t, "Submit, without room", k.Submit(receive(strings.Repeat("n", 64), strings.Repeat("p", 64), 1)), api.ErrFull)
		must(t, "Sync", k.Sync(), api.ErrOff)
		must(t, "Checkpoint", k.Checkpoint(), api.ErrOff)
		refusesOpen(t, "off", d, api.ErrOff)
		has(t, "off", k, 1, m.ledger)
	}
	crash(t, d)
	holds(t, "on", d, 0, m.image)
	has(t, "on", opened(t, d), 2, m.ledger)
}

// TestKe2Fuse: the power goes off at a writing of an operation's record: it is not done.
func TestKe2Fuse(t *testing.T) {
	o := receive(strings.Repeat("n", 40), "x", 1)
	for fuse := range 5 {
		d, k, m := modelled(t, 60)
		submits(t, k, receive("s", "x", 9))
		m.submit(receive("s", "x", 9))
		must(t, "Fuse", d.Fuse(fuse), api.OK)
		must(t, "Submit, short", k.Submit(hold("s", "x", 10, 0)), api.ErrStock)
		want := api.ErrOff
		if fuse >= 4 {
			var writes int
			if want, writes = m.submit(o); writes != 4 {
				t.Fatalf("%d writes, want 4", writes)
			}
		}
		must(t, fmt.Sprint("fuse ", fuse), k.Submit(o), want)
		has(t, fmt.Sprint("fuse ", fuse), k, 1, m.ledger)
		if off := d.Off(); off != (fuse < 4) {
			t.Errorf("fuse %d: off is %v", fuse, off)
		}
	}
}

// TestKe2Model holds keeps against models over long runs: each answer, each byte of the disk, and each write.
func TestKe2Model(t *testing.T) {
	seen := map[api.Errno]int{}
	for seed := range 60 {
		x := dice(6364136223846793005 + 1013*seed)
		d, k, m := modelled(t, 4+x.below(90))
		for step := range 60 {
			what := fmt.Sprintf("run %d, step %d", seed, step)
			waits := d.Waits()
			switch x.below(12) {
			case 0:
				syncs(t, k)
				waits = 0
			case 1:
				must(t, what, k.Checkpoint(), m.lay(t))
				waits = 0
			case 2:
				must(t, what, m.lay(t), api.OK)
				k = opened(t, d)
				waits = 0
			default:
				o := x.op(len(m.ledger.Holds))
				e, writes := m.submit(o)
				seen[e]++
				waits += writes
				must(t, fmt.Sprintf("%s: Submit(%+v)", what, o), k.Submit(o), e)
			}
			has(t, what, k, m.turn, m.ledger)
			holds(t, what, d, waits, m.image)
			if t.Failed() {
				return
			}
		}
	}
	for _, e := range []api.Errno{api.OK, api.ErrArg, api.ErrFull, api.ErrOver, api.ErrStock, api.ErrHold} {
		if seen[e] < 10 {
			t.Errorf("the error %d was met %d times", e, seen[e])
		}
	}
}
