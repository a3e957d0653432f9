package entry_test

import (
	"encoding/binary"
	"fmt"
	"slices"
	"strings"
	"testing"

	"quayside/api"
	"quayside/entry"
)

var null = api.Value{}

func number(n int) api.Value { return api.Value{Kind: api.Int, N: n} }

func text(s string) api.Value { return api.Value{Kind: api.Text, S: s} }

func truth(n int) api.Value { return api.Value{Kind: api.Bool, N: n} }

// long is a text of some bytes.
func long(size int) string { return strings.Repeat("n", size) }

// oddValues are values of every kind, and some that may not be.
func oddValues() []api.Value {
	return []api.Value{
		null, number(0), number(1), number(-1), number(2), number(api.MinInt), number(api.MaxInt),
		text(""), text("s"), text("active"), text("out"), text("up"), text("receive"), text("commit"), text("transfer"), text("adjust"),
		text("Active"), text("active "), text("hold"), text("release"), text("expire"), text("activ"), text("upp"), text("0"), text("null"), text(long(64)), text(long(65)), text(long(320)),
		truth(0), truth(1), truth(2),
		{Kind: api.Null, N: 1}, {Kind: api.Null, S: "s"}, {Kind: api.Null, S: "active"}, {Kind: api.Int, N: 1, S: "s"}, {Kind: api.Int, S: "up"}, {Kind: api.Text, N: 1, S: "s"}, {Kind: api.Text, N: 1, S: "out"}, {Kind: api.Text, N: 7}, {Kind: api.Bool, N: 1, S: "adjust"},
		{Kind: -1}, {Kind: 4}, {Kind: 4, N: 1}, {Kind: 5, S: "receive"}, {Kind: 257, N: 3}, {Kind: api.MinInt, N: 1, S: "s"}, {Kind: api.MaxInt},
	}
}

// rawRow is a row's bytes by the library's means, of values too that may not be.
func rawRow(r api.Row) string {
	s := []byte{byte(len(r))}
	for _, v := range r {
		s = append(s, byte(v.Kind))
		switch v.Kind {
		case api.Int:
			s = binary.BigEndian.AppendUint64(s, uint64(v.N)+1<<63)
		case api.Text:
			s = append(append(s, byte(len(v.S))), v.S...)
		case api.Bool:
			s = append(s, byte(v.N))
		}
	}
	return string(s)
}

func opRow(o api.Op) api.Row {
	return api.Row{number(o.Kind), text(o.Sku), text(o.Loc), text(o.To), number(o.Qty), number(o.Id), number(o.Due)}
}

func rawOp(o api.Op) string { return rawRow(opRow(o)) }

// Signs of what a field of an operation must be.
const (
	isName    = 'n'
	isEmpty   = '.'
	isAbove   = '+' // 1 or more
	isNotLess = '0' // 0 or more
	isNot0    = '!'
)

// fieldsOf tells of each kind of operations what Sku, Loc, To, Qty, Id and Due must be.
var fieldsOf = map[int]string{
	api.OpReceive:  "nn.+..",
	api.OpHold:     "nn.+.0",
	api.OpCommit:   "....+.",
	api.OpRelease:  "....+.",
	api.OpExpire:   ".....0",
	api.OpTransfer: "nnn+..",
	api.OpAdjust:   "nn.!..",
}

// mayOp is what the document says of an operation, told field by field.
func mayOp(o api.Op) bool {
	signs, ok := fieldsOf[o.Kind]
	if !ok || o.Kind == api.OpTransfer && o.Loc == o.To {
		return false
	}
	for k, s := range []string{o.Sku, o.Loc, o.To} {
		ok = ok && (signs[k] == isName && len(s) >= 1 && len(s) <= 64 || signs[k] == isEmpty && s == "")
	}
	for k, n := range []int{o.Qty, o.Id, o.Due} {
		switch signs[3+k] {
		case isAbove:
			ok = ok && n >= 1
		case isNotLess:
			ok = ok && n >= 0
		case isNot0:
			ok = ok && n != 0
		case isEmpty:
			ok = ok && n == 0
		}
	}
	return ok
}

// plainOps are one operation of each kind.
func plainOps() []api.Op {
	return []api.Op{
		{Kind: api.OpReceive, Sku: "s", Loc: "l", Qty: 1},
		{Kind: api.OpHold, Sku: "s", Loc: "l", Qty: 1, Due: 1},
		{Kind: api.OpCommit, Id: 1},
		{Kind: api.OpRelease, Id: 1},
		{Kind: api.OpExpire, Due: 1},
		{Kind: api.OpTransfer, Sku: "s", Loc: "l", To: "m", Qty: 1},
		{Kind: api.OpAdjust, Sku: "s", Loc: "l", Qty: 1},
	}
}

// opIs tells that an operation may be, or not, by all calls that look at one, and that its bytes are as they should be.
func opIs(t *testing.T, o api.Op, ok bool) {
	t.Helper()
	bytes, back := rawOp(o), o
	errArg, errForm := api.OK, api.OK
	if !ok {
		bytes, back, errArg, errForm = "", api.Op{}, api.ErrArg, api.ErrForm
	}
	if e := entry.Check(o); e != errArg {
		t.Errorf("Check(%.99v): error %d, want %d", o, e, errArg)
	}
	if s, e := entry.Put(o); s != bytes || e != errArg {
		t.Errorf("Put(%.99v): %.99q, error %d; want %.99q, error %d", o, s, e, bytes, errArg)
	}
	takes(t, rawOp(o), back, errForm)
}

func takes(t *testing.T, s string, want api.Op, err api.Errno) {
	t.Helper()
	if o, e := entry.Take(s); o != want || e != err {
		t.Errorf("Take(%.99q): %.99v, error %d; want %.99v, error %d", s, o, e, want, err)
	}
}

// shape is a kind of rows: its calls, by what they are of as text, and what stands at each place.
type shape struct {
	name  string
	signs string // n: a number; t: a text; s: a state; k: a kind; o: a number that is not 0, or null
	rows  []api.Row
	back  func(r api.Row) (told string, zero bool, row api.Row, e api.Errno)
}

func shapes() []shape {
	return []shape{
		{"stock", "ttnn", stockRows(), func(r api.Row) (string, bool, api.Row, api.Errno) {
			s, e := entry.RowStock(r)
			return fmt.Sprintf("%+v", s), s == api.Stock{}, entry.StockRow(s), e
		}},
		{"hold", "nttnso", holdRows(), func(r api.Row) (string, bool, api.Row, api.Errno) {
			h, e := entry.RowHold(r)
			return fmt.Sprintf("%+v", h), h == api.Hold{}, entry.HoldRow(h), e
		}},
		{"move", "nttnko", moveRows(), func(r api.Row) (string, bool, api.Row, api.Errno) {
			m, e := entry.RowMove(r)
			return fmt.Sprintf("%+v", m), m == api.Move{}, entry.MoveRow(m), e
		}},
	}
}

// stockRows, holdRows and moveRows are rows that lead back.
func stockRows() []api.Row {
	return []api.Row{
		{text("s"), text("l"), number(5), number(3)},
		{text(""), text(""), number(0), number(0)},
		{text(long(64)), text("\x00\xff'"), number(api.MinInt), number(api.MaxInt)},
		{text("l"), text(long(64)), number(-1), number(1)},
	}
}

func holdRows() []api.Row {
	return []api.Row{
		{number(1), text("s"), text("l"), number(3), text("active"), null},
		{number(2), text("s"), text("l"), number(4), text("out"), number(9)},
		{number(3), text("l"), text("s"), number(5), text("up"), number(1)},
		{number(0), text(""), text(""), number(0), text("active"), number(-1)},
		{number(api.MinInt), text(long(64)), text("\x00"), number(api.MaxInt), text("out"), number(api.MinInt)},
		{number(api.MaxInt), text("up"), text(long(64)), number(-1), text("up"), null},
	}
}

func moveRows() []api.Row {
	return []api.Row{
		{number(1), text("s"), text("l"), number(5), text("receive"), null},
		{number(2), text("s"), text("l"), number(-4), text("commit"), number(2)},
		{number(3), text("l"), text("s"), number(-6), text("transfer"), null},
		{number(4), text("l"), text("s"), number(7), text("adjust"), number(-1)},
		{number(0), text(""), text(""), number(0), text("commit"), null},
		{number(api.MinInt), text(long(64)), text("\xff"), number(api.MaxInt), text("receive"), number(api.MaxInt)},
		{number(api.MaxInt), text("adjust"), text(long(64)), number(api.MinInt), text("adjust"), null},
	}
}

// fits is what the document says of a row, told place by place.
func fits(r api.Row, signs string) bool {
	if len(r) != len(signs) {
		return false
	}
	for k, v := range r {
		isNumber, isText := v == number(v.N), v == text(v.S) && len(v.S) <= 64
		ok := map[byte]bool{
			'n': isNumber,
			't': isText,
			's': isText && slices.Contains([]string{"active", "out", "up"}, v.S),
			'k': isText && slices.Contains([]string{"receive", "commit", "transfer", "adjust"}, v.S),
			'o': v == null || isNumber && v.N != 0,
		}
		if !ok[signs[k]] {
			return false
		}
	}
	return true
}

// rowIs tells that a row leads back and forth, or is refused; and that it is not changed.
func rowIs(t *testing.T, x shape, r api.Row, ok bool) {
	t.Helper()
	was := slices.Clone(r)
	told, zero, led, e := x.back(r)
	switch {
	case ok && (e != api.OK || !slices.Equal(led, was)):
		t.Errorf("the %s of %.99v: %.99s, error %d, its row %.99v", x.name, r, told, e, led)
	case !ok && (e != api.ErrForm || !zero):
		t.Errorf("the %s of %.99v: %.99s, error %d; want none, error %d", x.name, r, told, e, api.ErrForm)
	}
	if !slices.Equal(r, was) {
		t.Errorf("the row %.99v is %.99v now", was, r)
	}
}

func sameRow(t *testing.T, what any, got, want api.Row) {
	t.Helper()
	if !slices.Equal(got, want) {
		t.Errorf("the row of %.99v: %.99v, want %.99v", what, got, want)
	}
}

// dice are numbers that look like any, the same ones each time.
type dice uint64

func (x *dice) below(n int) int {
	*x ^= *x << 13
	*x ^= *x >> 7
	*x ^= *x << 17
	return int(uint64(*x) >> 20 % uint64(n))
}

// number is any, often a small one.
func (x *dice) number() int { return (x.below(7) - 3) << x.below(62) }

// text is of some bytes, any ones.
func (x *dice) text(size int) string {
	s := make([]byte, size)
	for k := range s {
		s[k] = byte(x.below(256))
	}
	return string(s)
}

// op is any operation that may be.
func (x *dice) op() api.Op {
	for {
		o := plainOps()[x.below(7)]
		for _, s := range []*string{&o.Sku, &o.Loc, &o.To} {
			if *s != "" {
				*s = x.text(1 + x.below(64))
			}
		}
		for _, n := range []*int{&o.Qty, &o.Id, &o.Due} {
			if *n != 0 {
				*n = x.number()
			}
		}
		if mayOp(o) {
			return o
		}
	}
}
