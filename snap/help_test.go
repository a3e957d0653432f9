package snap_test

import (
	"fmt"
	"maps"
	"slices"
	"strings"
	"testing"

	"quayside/api"
	"quayside/disk"
	"quayside/ledger"
	"quayside/snap"
	"quayside/space"
	"quayside/table"
)

func must(t *testing.T, what string, got, want api.Errno) {
	t.Helper()
	if got != want {
		t.Fatalf("%s: error %d, want %d", what, got, want)
	}
}

// dice are numbers that look like chance, the same ones in each run.
type dice uint64

func (x *dice) below(n int) int {
	*x ^= *x << 13
	*x ^= *x >> 7
	*x ^= *x << 17
	return int(uint64(*x) >> 20 % uint64(n))
}

func pick[T any](x *dice, of ...T) T { return of[x.below(len(of))] }

func newDisk(t *testing.T, n int) *disk.Disk {
	t.Helper()
	d, e := disk.New(n)
	must(t, fmt.Sprintf("New(%d)", n), e, api.OK)
	return d
}

func opened(t *testing.T, d *disk.Disk) *snap.Store {
	t.Helper()
	s, e := snap.Open(d, 0, d.Size())
	if s == nil || e != api.OK {
		t.Fatalf("Open: %v, error %d", s, e)
	}
	return s
}

// storeOf is a store of so many pages, on a disk of its own, which it has whole.
func storeOf(t *testing.T, pages int) (*disk.Disk, *snap.Store) {
	t.Helper()
	d := newDisk(t, 8*(pages+3))
	return d, opened(t, d)
}

// spaceOf is the space in which a store lies that has its whole disk.
func spaceOf(t *testing.T, d *disk.Disk) *space.Space {
	t.Helper()
	p, e := space.Open(d, 0, d.Size())
	must(t, "Open of the space", e, api.OK)
	return p
}

func text(s string) api.Value { return api.Value{Kind: api.Text, S: s} }

func number(n int) api.Value { return api.Value{Kind: api.Int, N: n} }

func truth(n int) api.Value { return api.Value{Kind: api.Bool, N: n} }

func receive(sku, loc string, n int) api.Op {
	return api.Op{Kind: api.OpReceive, Sku: sku, Loc: loc, Qty: n}
}

func hold(sku, loc string, n, due int) api.Op {
	return api.Op{Kind: api.OpHold, Sku: sku, Loc: loc, Qty: n, Due: due}
}

func replayed(t *testing.T, ops ...api.Op) api.Ledger {
	t.Helper()
	l, n, e := ledger.Replay(api.Ledger{}, ops)
	must(t, fmt.Sprintf("Replay, operation %d", n), e, api.OK)
	return l
}

func same(a, b api.Ledger) bool {
	return slices.Equal(a.Stocks, b.Stocks) && slices.Equal(a.Holds, b.Holds) && slices.Equal(a.Moves, b.Moves) && a.Ops == b.Ops
}

// full is a ledger with stocks, holds in each state, due and for good, and movements of each kind.
func full(t *testing.T) api.Ledger {
	t.Helper()
	return replayed(t,
		receive("b", "x", 9), receive("a", "y", 9), receive("a", "x", 4), hold("b", "x", 2, 7), hold("b", "x", 3, 0), hold("a", "y", 1, 3), hold("a", "y", 2, 9),
		api.Op{Kind: api.OpCommit, Id: 1}, api.Op{Kind: api.OpRelease, Id: 2}, api.Op{Kind: api.OpExpire, Due: 3},
		api.Op{Kind: api.OpTransfer, Sku: "a", Loc: "y", To: "z", Qty: 5}, api.Op{Kind: api.OpAdjust, Sku: "a", Loc: "x", Qty: -4}, api.Op{Kind: api.OpAdjust, Sku: "c", Loc: "x", Qty: 1})
}

// received is a ledger behind so many receipts of so many stocks.
func received(t *testing.T, n, stocks int) api.Ledger {
	t.Helper()
	var ops []api.Op
	for k := range n {
		ops = append(ops, receive(fmt.Sprintf("sku-%03d", k%stocks), "x", 1+k%7))
	}
	return replayed(t, ops...)
}

// anyLedger is one behind so many operations of any kind, but for those that are refused.
func anyLedger(r *dice, n int) api.Ledger {
	skus := []string{"a", "b", "\x00", "it's", "\xff\xfe", strings.Repeat("s", 14), strings.Repeat("l", 64)}
	locs := []string{"x", "y", "x\x00", strings.Repeat("p", 64)}
	var l api.Ledger
	for range n {
		o := api.Op{Kind: pick(r, api.OpReceive, api.OpReceive, api.OpHold, api.OpHold, api.OpCommit, api.OpRelease, api.OpExpire, api.OpTransfer, api.OpAdjust)}
		switch o.Kind {
		case api.OpCommit, api.OpRelease:
			o.Id = 1 + r.below(len(l.Holds)+1)
		case api.OpExpire:
			o.Due = r.below(9)
		default:
			o.Sku, o.Loc, o.Qty = pick(r, skus...), pick(r, locs...), pick(r, 1, 2, 3, 500, 1<<40)
		}
		switch o.Kind {
		case api.OpTransfer:
			o.To = pick(r, locs...)
		case api.OpHold:
			o.Due = r.below(12) * r.below(2)
		case api.OpAdjust:
			o.Qty *= pick(r, 1, -1)
		}
		if next, e := ledger.Apply(l, o); e == api.OK {
			l = next
		}
	}
	return l
}

// ledgers are some of each kind.
func ledgers(t *testing.T) map[string]api.Ledger {
	t.Helper()
	r := dice(4711)
	long := strings.Repeat("n", 64)
	return map[string]api.Ledger{
		"nothing":                    {},
		"nothing, behind operations": {Ops: 1 << 62},
		"one stock":                  replayed(t, receive("s", "x", 5)),
		"a stock without movements":  {Stocks: []api.Stock{{Sku: "s", Loc: "x"}}},
		"holds that are over alone":  {Holds: []api.Hold{{Id: 1, Sku: "s", Loc: "x", Qty: 1, State: api.HoldUp}, {Id: 2, Sku: "s", Loc: "y", Qty: api.MaxInt, State: api.HoldOut, Due: api.MaxInt}}, Ops: 7},
		"each kind":                  full(t),
		"great numbers":              replayed(t, receive("s", "x", api.MaxInt), hold("s", "x", api.MaxInt, api.MaxInt), receive("s", "y", api.MaxInt), api.Op{Kind: api.OpAdjust, Sku: "s", Loc: "y", Qty: -api.MaxInt}),
		"long texts":                 replayed(t, receive(long, long, 5), hold(long, long, 1, 1), receive(long[1:], long, 5)),
		"texts of any bytes":         replayed(t, receive("\x00", "\xff", 5), receive("\x00\x00", "'", 5), receive("é", "\n", 5)),
		"rows of 30 bytes, and 60":   replayed(t, receive("123456", "x", 5), receive("123456", strings.Repeat("y", 31), 1)),
		"many":                       anyLedger(&r, 120),
	}
}

// model is what a store has.
type model map[string]api.Ledger

func (m model) names() []string { return slices.Sorted(maps.Keys(m)) }

func (m model) with(name string, l api.Ledger) model {
	out := maps.Clone(m)
	out[name] = l
	return out
}

func (m model) without(name string) model {
	out := maps.Clone(m)
	delete(out, name)
	return out
}

// differs tells where a store is not as a model; nothing, if it is.
func differs(s *snap.Store, m model) string {
	if e := s.Check(); e != api.OK {
		return fmt.Sprintf("Check: error %d", e)
	}
	if names, e := s.Names(); e != api.OK || !slices.Equal(names, m.names()) {
		return fmt.Sprintf("Names: %q, error %d, want %q", names, e, m.names())
	}
	for name, want := range m {
		if l, e := s.Load(name); e != api.OK || !same(l, want) {
			return fmt.Sprintf("Load(%q): %v, error %d, want %v", name, l, e, want)
		}
	}
	return ""
}

// is: a store is as a model.
func is(t *testing.T, what string, s *snap.Store, m model) {
	t.Helper()
	if wrong := differs(s, m); wrong != "" {
		t.Fatalf("%s: %s", what, wrong)
	}
}

func saves(t *testing.T, s *snap.Store, name string, l api.Ledger) {
	t.Helper()
	must(t, fmt.Sprintf("Save(%q)", name), s.Save(name, l), api.OK)
}

func drops(t *testing.T, s *snap.Store, name string) {
	t.Helper()
	must(t, fmt.Sprintf("Drop(%q)", name), s.Drop(name), api.OK)
}

// refusesLoad: Load is an error, and nothing besides.
func refusesLoad(t *testing.T, what string, s *snap.Store, name string, want api.Errno) {
	t.Helper()
	if l, e := s.Load(name); e != want || !same(l, api.Ledger{}) {
		t.Fatalf("%s: Load(%q): %v, error %d, want nothing, error %d", what, name, l, e, want)
	}
}

// refusesFind: Find is an error, and nothing besides.
func refusesFind(t *testing.T, s *snap.Store, name, table string, col int, v api.Value, want api.Errno) {
	t.Helper()
	if rows, e := s.Find(name, table, col, v); e != want || len(rows) != 0 {
		t.Fatalf("Find(%q, %q, %d, %v): %v, error %d, want nothing, error %d", name, table, col, v, rows, e, want)
	}
}

func refusesNames(t *testing.T, what string, s *snap.Store, want api.Errno) {
	t.Helper()
	if names, e := s.Names(); e != want || len(names) != 0 {
		t.Fatalf("%s: Names: %q, error %d, want nothing, error %d", what, names, e, want)
	}
}

var tableNames = []string{"stock", "holds", "moves"}

func tableOf(t *testing.T, l api.Ledger, name string) table.Table {
	t.Helper()
	set, e := table.Of(l)
	must(t, "Of", e, api.OK)
	x, ok := set.Table(name)
	if !ok {
		t.Fatalf("no table %q", name)
	}
	return x
}

func sameRows(a, b []api.Row) bool {
	return slices.EqualFunc(a, b, func(x, y api.Row) bool { return slices.Equal(x, y) })
}

// odd are values that most columns do not have, of each kind, and such as may not be.
var odd = []api.Value{
	{}, number(0), number(1), number(-1), number(api.MaxInt), number(api.MinInt), text(""), text("active"), text("none"), text("\x00"), text(strings.Repeat("n", 64)), truth(0), truth(1),
	text(strings.Repeat("n", 65)), {Kind: api.Text, N: 1, S: "x"}, {N: 1}, {S: "x"}, {Kind: api.Int, N: 5, S: "x"}, {Kind: api.Bool, N: 2}, {Kind: -1}, {Kind: 4}, {Kind: api.MaxInt, N: 9, S: "s"}, text(strings.Repeat("n", 1<<16)),
}

// finds: of a ledger that was saved Find tells in each column of each table, of each value that is there and of odd ones, what layer 11 tells of the ledger.
func finds(t *testing.T, what string, s *snap.Store, name string, l api.Ledger) {
	t.Helper()
	for _, of := range tableNames {
		x := tableOf(t, l, of)
		for col := range x.Columns() {
			asked := slices.Clone(odd)
			for _, r := range x.Rows() {
				asked = append(asked, r[col])
			}
			for _, v := range asked {
				rows, e := s.Find(name, of, col, v)
				if want := x.Same(col, v); e != api.OK || !sameRows(rows, want) {
					t.Fatalf("%s: Find(%q, %q, %d, %v): %v, error %d, want %v", what, name, of, col, v, rows, e, want)
				}
			}
		}
	}
}

// call is one of a store's that may be an error; what it answers besides must be nothing then.
type call struct {
	name string
	do   func(s *snap.Store, name string) api.Errno
}

func calls() []call {
	return []call{
		{"Load", func(s *snap.Store, name string) api.Errno { _, e := s.Load(name); return e }},
		{"Find", func(s *snap.Store, name string) api.Errno {
			_, e := s.Find(name, "stock", 0, text("a"))
			return e
		}},
		{"Names", func(s *snap.Store, _ string) api.Errno { _, e := s.Names(); return e }},
		{"Check", func(s *snap.Store, _ string) api.Errno { return s.Check() }},
		{"Drop", func(s *snap.Store, name string) api.Errno { return s.Drop(name) }},
		{"Save", func(s *snap.Store, name string) api.Errno { return s.Save(name, api.Ledger{Ops: 5}) }},
	}
}

// image are all bytes of a disk.
func image(t *testing.T, d *disk.Disk) string {
	t.Helper()
	var s strings.Builder
	for at := range d.Size() {
		text, e := d.Read(at)
		must(t, fmt.Sprintf("Read(%d)", at), e, api.OK)
		s.WriteString(text)
	}
	return s.String()
}

// diskOf is a disk of bytes, all of them sure.
func diskOf(t *testing.T, image string) *disk.Disk {
	t.Helper()
	d := newDisk(t, len(image)/32)
	for at := range d.Size() {
		must(t, "Write", d.Write(at, image[at*32:at*32+32]), api.OK)
	}
	must(t, "Flush", d.Flush(), api.OK)
	return d
}

// putOff lets the power of a disk go off, and writes nothing.
func putOff(t *testing.T, d *disk.Disk) {
	t.Helper()
	must(t, "Fuse(0)", d.Fuse(0), api.OK)
	must(t, "Flush", d.Flush(), api.ErrOff)
}

// untouched: nothing of a disk is another than it was, nor waits.
func untouched(t *testing.T, what string, d *disk.Disk, bytes string) {
	t.Helper()
	if d.Waits() != 0 || image(t, d) != bytes {
		t.Fatalf("%s: it was written", what)
	}
}
