package ledger_test

import (
	"fmt"
	"math/big"
	"slices"
	"strings"
	"testing"

	"quayside/api"
	"quayside/entry"
	"quayside/ledger"
)

func receive(sku, loc string, qty int) api.Op {
	return api.Op{Kind: api.OpReceive, Sku: sku, Loc: loc, Qty: qty}
}

func hold(sku, loc string, qty, due int) api.Op {
	return api.Op{Kind: api.OpHold, Sku: sku, Loc: loc, Qty: qty, Due: due}
}

func commit(id int) api.Op { return api.Op{Kind: api.OpCommit, Id: id} }

func release(id int) api.Op { return api.Op{Kind: api.OpRelease, Id: id} }

func expire(due int) api.Op { return api.Op{Kind: api.OpExpire, Due: due} }

func transfer(sku, loc, to string, qty int) api.Op {
	return api.Op{Kind: api.OpTransfer, Sku: sku, Loc: loc, To: to, Qty: qty}
}

func adjust(sku, loc string, qty int) api.Op {
	return api.Op{Kind: api.OpAdjust, Sku: sku, Loc: loc, Qty: qty}
}

func stock(sku, loc string, onHand, held int) api.Stock {
	return api.Stock{Sku: sku, Loc: loc, OnHand: onHand, Held: held}
}

// kept is a hold, moved a movement.
func kept(id int, sku, loc string, qty, state, due int) api.Hold {
	return api.Hold{Id: id, Sku: sku, Loc: loc, Qty: qty, State: state, Due: due}
}

func moved(seq int, sku, loc string, delta, kind, hold int) api.Move {
	return api.Move{Seq: seq, Sku: sku, Loc: loc, Delta: delta, Kind: kind, Hold: hold}
}

// long is a text of some bytes.
func long(size int) string { return strings.Repeat("n", size) }

// plain is a ledger that may be, with stocks, holds and movements of every sort.
func plain() api.Ledger {
	return api.Ledger{
		Stocks: []api.Stock{stock("a", "x", 5, 3), stock("a", "y", 4, 0), stock("b", "x", 4, 4), stock("c", "z", 0, 0)},
		Holds: []api.Hold{
			kept(1, "a", "x", 3, api.HoldActive, 0),
			kept(2, "a", "y", 2, api.HoldOut, 5),
			kept(3, "b", "x", 1, api.HoldActive, 9),
			kept(4, "b", "x", 8, api.HoldUp, 0),
			kept(5, "b", "x", 3, api.HoldActive, 10),
		},
		Moves: []api.Move{
			moved(1, "a", "x", 7, api.OpReceive, 0),
			moved(2, "a", "y", 4, api.OpReceive, 0),
			moved(3, "a", "y", -2, api.OpCommit, 2),
			moved(4, "b", "x", 9, api.OpReceive, 0),
			moved(5, "b", "x", -5, api.OpAdjust, 0),
			moved(6, "a", "x", -2, api.OpTransfer, 0),
			moved(7, "a", "y", 2, api.OpTransfer, 0),
		},
		Ops: 12,
	}
}

// crowd are some stocks of which there are none.
func crowd(n int) []api.Stock {
	var stocks []api.Stock
	for k := range n {
		stocks = append(stocks, api.Stock{Sku: fmt.Sprintf("%04d", k/2), Loc: fmt.Sprint("loc", k%2)})
	}
	return stocks
}

// past are some holds of a sku at a place that are over.
func past(sku, loc string, n int) []api.Hold {
	var holds []api.Hold
	for k := range n {
		holds = append(holds, api.Hold{Id: k + 1, Sku: sku, Loc: loc, Qty: 1 + k, State: api.HoldOut + k%2, Due: k % 3})
	}
	return holds
}

// toAndFro are some movements that come to a sum.
func toAndFro(sku, loc string, n, sum int) []api.Move {
	var moves []api.Move
	for k := range n {
		m := api.Move{Seq: k + 1, Sku: sku, Loc: loc, Delta: 1 - k%2*2, Kind: api.OpAdjust}
		if k == n-1 {
			m.Delta = sum - (n-1)%2
		}
		moves = append(moves, m)
	}
	return moves
}

// full is a ledger of one stock with as many holds and movements, the holds all over but for the first one, which is active, of 1.
func full(holds, moves, onHand int) api.Ledger {
	l := api.Ledger{Stocks: []api.Stock{stock("s", "l", onHand, 0)}, Holds: past("s", "l", holds), Moves: toAndFro("s", "l", moves, onHand), Ops: holds + moves}
	if holds > 0 {
		l.Holds[0].State, l.Stocks[0].Held = api.HoldActive, 1
	}
	return l
}

func sameLedger(a, b api.Ledger) bool {
	return slices.Equal(a.Stocks, b.Stocks) && slices.Equal(a.Holds, b.Holds) && slices.Equal(a.Moves, b.Moves) && a.Ops == b.Ops
}

func copied(l api.Ledger) api.Ledger {
	return api.Ledger{Stocks: slices.Clone(l.Stocks), Holds: slices.Clone(l.Holds), Moves: slices.Clone(l.Moves), Ops: l.Ops}
}

func short(l api.Ledger) string { return fmt.Sprintf("%.900s", fmt.Sprintf("%+v", l)) }

// checks tells that Check answers so, as does the document, told anew.
func checks(t *testing.T, what string, l api.Ledger, ok bool) {
	t.Helper()
	want := api.ErrArg
	if ok {
		want = api.OK
	}
	if mayBe(l) != ok {
		t.Errorf("%s: the test's own words say otherwise", what)
	}
	was := copied(l)
	if e := ledger.Check(l); e != want {
		t.Errorf("%s: Check: %d, want %d; %s", what, e, want, short(l))
	}
	if !sameLedger(l, was) {
		t.Errorf("%s: Check changed the ledger", what)
	}
}

// applies tells that an operation leads from a ledger to another one, which may be, and leaves the first one as it was.
func applies(t *testing.T, l api.Ledger, o api.Op, want api.Ledger) {
	t.Helper()
	was := copied(l)
	got, e := ledger.Apply(l, o)
	if e != api.OK || !sameLedger(got, want) {
		t.Errorf("%+v: %s, error %d; want %s", o, short(got), e, short(want))
	}
	if !sameLedger(l, was) {
		t.Errorf("%+v: the ledger is %s now, was %s", o, short(l), short(was))
	}
	if e := ledger.Check(got); e != api.OK {
		t.Errorf("%+v: the ledger behind it may not be: %s", o, short(got))
	}
}

// refuses tells that an operation is refused by an error, beside which there is nothing, and by which nothing is changed.
func refuses(t *testing.T, l api.Ledger, o api.Op, want api.Errno) {
	t.Helper()
	was := copied(l)
	got, e := ledger.Apply(l, o)
	if e != want || !sameLedger(got, api.Ledger{}) {
		t.Errorf("%.99v: %s, error %d; want none, error %d", o, short(got), e, want)
	}
	if !sameLedger(l, was) {
		t.Errorf("%.99v: the ledger is %s now, was %s", o, short(l), short(was))
	}
}

// behind is a ledger behind operations that are all taken.
func behind(t *testing.T, ops ...api.Op) api.Ledger {
	t.Helper()
	return behindThat(t, api.Ledger{}, ops...)
}

func behindThat(t *testing.T, l api.Ledger, ops ...api.Op) api.Ledger {
	t.Helper()
	for _, o := range ops {
		next, e := ledger.Apply(l, o)
		if e != api.OK {
			t.Fatalf("%+v is refused by %d", o, e)
		}
		l = next
	}
	return l
}

type place struct{ sku, loc string }

func (a place) ahead(b place) bool {
	return a.sku < b.sku || a.sku == b.sku && a.loc < b.loc
}

// sums are numbers without end, by places.
type sums map[place]*big.Int

func (s sums) add(p place, n int) {
	s[p] = new(big.Int).Add(s.of(p), big.NewInt(int64(n)))
}

func (s sums) of(p place) *big.Int {
	if n, ok := s[p]; ok {
		return n
	}
	return new(big.Int)
}

func isName(s string) bool { return len(s) >= 1 && len(s) <= 64 }

// mayBe is what the document says of a ledger, clause by clause.
func mayBe(l api.Ledger) bool {
	ok := l.Ops >= 0 && len(l.Stocks) <= 4096 && len(l.Holds) <= 4096 && len(l.Moves) <= 4096
	there, held, onHand := map[place]bool{}, sums{}, sums{}
	for k, s := range l.Stocks {
		there[place{s.Sku, s.Loc}] = true
		ok = ok && isName(s.Sku) && isName(s.Loc) && 0 <= s.Held && s.Held <= s.OnHand
		ok = ok && (k == 0 || place{l.Stocks[k-1].Sku, l.Stocks[k-1].Loc}.ahead(place{s.Sku, s.Loc}))
	}
	for k, h := range l.Holds {
		ok = ok && h.Id == k+1 && isName(h.Sku) && isName(h.Loc) && h.Qty >= 1 && h.Due >= 0
		ok = ok && (h.State == 0 || h.State == 1 || h.State == 2)
		if h.State == 0 {
			ok = ok && there[place{h.Sku, h.Loc}]
			held.add(place{h.Sku, h.Loc}, h.Qty)
		}
	}
	for k, m := range l.Moves {
		ok = ok && m.Seq == k+1 && isName(m.Sku) && isName(m.Loc) && m.Delta != 0 && m.Hold >= 0
		ok = ok && slices.Contains([]int{api.OpReceive, api.OpCommit, api.OpTransfer, api.OpAdjust}, m.Kind)
		ok = ok && (m.Hold != 0) == (m.Kind == api.OpCommit) && there[place{m.Sku, m.Loc}]
		onHand.add(place{m.Sku, m.Loc}, m.Delta)
	}
	for _, s := range l.Stocks {
		ok = ok && held.of(place{s.Sku, s.Loc}).Cmp(big.NewInt(int64(s.Held))) == 0
		ok = ok && onHand.of(place{s.Sku, s.Loc}).Cmp(big.NewInt(int64(s.OnHand))) == 0
	}
	return ok
}

// book is a ledger without numbers of stocks: what is held and on hand is summed up anew of holds and movements whenever it is asked.
type book struct {
	there map[place]bool
	holds []api.Hold
	moves []api.Move
	ops   int
}

func bookOf(l api.Ledger) *book {
	b := &book{there: map[place]bool{}, holds: slices.Clone(l.Holds), moves: slices.Clone(l.Moves), ops: l.Ops}
	for _, s := range l.Stocks {
		b.there[place{s.Sku, s.Loc}] = true
	}
	return b
}

func (b *book) held(p place) *big.Int {
	s := sums{}
	for _, h := range b.holds {
		if h.State == api.HoldActive {
			s.add(place{h.Sku, h.Loc}, h.Qty)
		}
	}
	return s.of(p)
}

func (b *book) onHand(p place) *big.Int {
	s := sums{}
	for _, m := range b.moves {
		s.add(place{m.Sku, m.Loc}, m.Delta)
	}
	return s.of(p)
}

// ledger is the ledger that the book tells.
func (b *book) ledger() api.Ledger {
	l := api.Ledger{Holds: slices.Clone(b.holds), Moves: slices.Clone(b.moves), Ops: b.ops}
	for p := range b.there {
		l.Stocks = append(l.Stocks, api.Stock{Sku: p.sku, Loc: p.loc, OnHand: int(b.onHand(p).Int64()), Held: int(b.held(p).Int64())})
	}
	slices.SortFunc(l.Stocks, func(a, b api.Stock) int {
		return slices.Compare([]string{a.Sku, a.Loc}, []string{b.Sku, b.Loc})
	})
	return l
}

func (b *book) move(p place, delta, kind, hold int) {
	b.there[p] = true
	b.moves = append(b.moves, api.Move{Seq: len(b.moves) + 1, Sku: p.sku, Loc: p.loc, Delta: delta, Kind: kind, Hold: hold})
}

// short tells whether fewer of a place are free than are asked for.
func (b *book) short(p place, qty int) bool {
	free := new(big.Int).Sub(b.onHand(p), b.held(p))
	return free.Cmp(big.NewInt(int64(qty))) < 0
}

// over tells whether what is on hand and some more are no number.
func (b *book) over(p place, qty int) bool {
	return !new(big.Int).Add(b.onHand(p), big.NewInt(int64(qty))).IsInt64()
}

// full tells whether lists would be too long with a place, and some holds and movements more.
func (b *book) full(p place, holds, moves int) bool {
	stocks := len(b.there)
	if !b.there[p] {
		stocks++
	}
	return stocks > 4096 || len(b.holds)+holds > 4096 || len(b.moves)+moves > 4096
}

// why is the error by which the document has an operation refused.
func (b *book) why(o api.Op) api.Errno {
	at, to := place{o.Sku, o.Loc}, place{o.Sku, o.To}
	noHold := func() bool {
		return !slices.ContainsFunc(b.holds, func(h api.Hold) bool { return h.Id == o.Id && h.State == api.HoldActive })
	}
	switch {
	case entry.Check(o) != api.OK:
		return api.ErrArg
	case o.Kind == api.OpReceive && b.over(at, o.Qty), o.Kind == api.OpAdjust && b.over(at, o.Qty):
		return api.ErrOver
	case o.Kind == api.OpHold && b.short(at, o.Qty), o.Kind == api.OpTransfer && b.short(at, o.Qty):
		return api.ErrStock
	case o.Kind == api.OpAdjust && o.Qty < 0 && (o.Qty == api.MinInt || b.short(at, -o.Qty)):
		return api.ErrStock
	case o.Kind == api.OpTransfer && b.over(to, o.Qty):
		return api.ErrOver
	case (o.Kind == api.OpCommit || o.Kind == api.OpRelease) && noHold():
		return api.ErrHold
	case o.Kind == api.OpReceive && b.full(at, 0, 1), o.Kind == api.OpAdjust && b.full(at, 0, 1), o.Kind == api.OpTransfer && b.full(to, 0, 2):
		return api.ErrFull
	case o.Kind == api.OpHold && b.full(at, 1, 0), o.Kind == api.OpCommit && len(b.moves) >= 4096, b.ops >= 1<<62:
		return api.ErrFull
	}
	return api.OK
}

// apply does an operation, or tells why not.
func (b *book) apply(o api.Op) api.Errno {
	if e := b.why(o); e != api.OK {
		return e
	}
	b.ops++
	at := place{o.Sku, o.Loc}
	switch o.Kind {
	case api.OpReceive, api.OpAdjust:
		b.move(at, o.Qty, o.Kind, 0)
	case api.OpHold:
		b.holds = append(b.holds, api.Hold{Id: len(b.holds) + 1, Sku: o.Sku, Loc: o.Loc, Qty: o.Qty, Due: o.Due})
	case api.OpCommit:
		h := b.holds[o.Id-1]
		b.holds[o.Id-1].State = api.HoldOut
		b.move(place{h.Sku, h.Loc}, -h.Qty, o.Kind, o.Id)
	case api.OpRelease:
		b.holds[o.Id-1].State = api.HoldUp
	case api.OpExpire:
		for k, h := range b.holds {
			if h.State == api.HoldActive && h.Due != 0 && h.Due <= o.Due {
				b.holds[k].State = api.HoldUp
			}
		}
	case api.OpTransfer:
		b.move(at, -o.Qty, o.Kind, 0)
		b.move(place{o.Sku, o.To}, o.Qty, o.Kind, 0)
	}
	return api.OK
}

// dice are numbers that look like any, the same ones each time.
type dice uint64

func (x *dice) below(n int) int {
	*x ^= *x << 13
	*x ^= *x >> 7
	*x ^= *x << 17
	return int(uint64(*x) >> 20 % uint64(n))
}

func pick[T any](x *dice, of ...T) T { return of[x.below(len(of))] }

// number is mostly a small one, now and then one about the bounds.
func (x *dice) number() int {
	if x.below(12) > 0 {
		return x.below(12) - 1
	}
	return pick(x, api.MaxInt, api.MaxInt-1, api.MaxInt/2, api.MaxInt/2+1, api.MinInt, api.MinInt+1, -5, -api.MaxInt/2)
}

// op is any operation of few names; some of them may not be.
func (x *dice) op(holds int) api.Op {
	sku, loc, to := pick(x, "s", "t", "s1", "S"), pick(x, "x", "y", "\xff"), pick(x, "x", "y", "w")
	switch id := 1 + x.below(holds+1); x.below(12) {
	case 0, 1:
		return receive(sku, loc, x.number())
	case 2, 3, 4:
		return hold(sku, loc, x.number(), x.number())
	case 5:
		return commit(id)
	case 6:
		return release(id)
	case 7:
		return expire(x.number())
	case 8, 9:
		return transfer(sku, loc, to, x.number())
	case 10:
		return api.Op{Kind: x.number(), Sku: sku, Loc: loc, To: to, Qty: x.number(), Id: id}
	}
	return adjust(sku, loc, x.number()-x.below(9))
}

// bend changes a field of a ledger, any one, to a value that may be odd.
func (x *dice) bend(l *api.Ledger) {
	text := func(s *string) { *s = pick(x, *s, "s", "t", "x", "y", "", long(64), long(65)) }
	number := func(n *int) { *n = pick(x, *n, *n+1, *n-1, -*n, 0, 1, 2, 3, -1, x.number()) }
	if s := l.Stocks; len(s) > 0 && x.below(3) == 0 {
		k := x.below(len(s))
		pick(x, func() { text(&s[k].Sku) }, func() { text(&s[k].Loc) }, func() { number(&s[k].OnHand) }, func() { number(&s[k].Held) },
			func() { s[k] = s[x.below(len(s))] }, func() { l.Stocks = slices.Delete(s, k, k+1) }, func() { number(&l.Ops) })()
		return
	}
	if h := l.Holds; len(h) > 0 && x.below(2) == 0 {
		k := x.below(len(h))
		pick(x, func() { text(&h[k].Sku) }, func() { text(&h[k].Loc) }, func() { number(&h[k].Id) }, func() { number(&h[k].Qty) },
			func() { number(&h[k].State) }, func() { number(&h[k].Due) }, func() { l.Holds = slices.Delete(h, k, k+1) })()
		return
	}
	if m := l.Moves; len(m) > 0 {
		k := x.below(len(m))
		pick(x, func() { text(&m[k].Sku) }, func() { text(&m[k].Loc) }, func() { number(&m[k].Seq) }, func() { number(&m[k].Delta) },
			func() { number(&m[k].Kind) }, func() { number(&m[k].Hold) }, func() { l.Moves = slices.Delete(m, k, k+1) })()
	}
}
