package table

import (
	"slices"

	"quayside/api"
	"quayside/entry"
	"quayside/ledger"
)

// Set are the tables of a ledger.
type Set struct {
	stock Table
	holds Table
	moves Table
}

// Of are the tables of a ledger.
func Of(l api.Ledger) (Set, api.Errno) { return blank().Next(l) }

// Next are the tables of another ledger, made of these.
func (s Set) Next(l api.Ledger) (Set, api.Errno) {
	if s.stock.name == "" || ledger.Check(l) != api.OK {
		return Set{}, api.ErrArg
	}
	return Set{
		stock: s.stock.turned(rowsOf(l.Stocks, entry.StockRow)),
		holds: s.holds.turned(rowsOf(l.Holds, entry.HoldRow)),
		moves: s.moves.turned(rowsOf(l.Moves, entry.MoveRow)),
	}, api.OK
}

// Table is the one of a name; false: there is none.
func (s Set) Table(name string) (Table, bool) {
	for _, t := range []Table{s.stock, s.holds, s.moves} {
		if t.name != "" && t.name == name {
			return t, true
		}
	}
	return Table{}, false
}

// blank are the tables of a ledger that has nothing.
func blank() Set {
	var s Set
	s.stock, _ = New("stock", []api.Column{
		{Name: "sku", Kind: api.Text},
		{Name: "loc", Kind: api.Text},
		{Name: "on_hand", Kind: api.Int},
		{Name: "held", Kind: api.Int},
	}, 2)
	s.holds, _ = New("holds", []api.Column{
		{Name: "id", Kind: api.Int},
		{Name: "sku", Kind: api.Text},
		{Name: "loc", Kind: api.Text},
		{Name: "qty", Kind: api.Int},
		{Name: "state", Kind: api.Text},
		{Name: "due", Kind: api.Int, Null: true},
	}, 1)
	s.moves, _ = New("moves", []api.Column{
		{Name: "seq", Kind: api.Int},
		{Name: "sku", Kind: api.Text},
		{Name: "loc", Kind: api.Text},
		{Name: "delta", Kind: api.Int},
		{Name: "kind", Kind: api.Text},
		{Name: "hold", Kind: api.Int, Null: true},
	}, 1)
	return s
}

func rowsOf[T any](list []T, rowOf func(one T) api.Row) []api.Row {
	rows := make([]api.Row, 0, len(list))
	for _, one := range list {
		rows = append(rows, rowOf(one))
	}
	return rows
}

// turned is the table with just some rows, which are a ledger's: they fit, rise by their keys, and are no more than a table takes. Rows that stay are not put anew.
func (t Table) turned(rows []api.Row) Table {
	elder := t
	// What goes goes first, so that there is room for what comes.
	for _, n := range elder.places.All() {
		r, _ := elder.rows.Get(n)
		if _, stays := slices.BinarySearchFunc(rows, r, t.compareKeys); !stays {
			t = t.Without(r[:len(t.by)])
		}
	}
	for _, r := range rows {
		if old, there := elder.Get(r[:len(t.by)]); !there || !slices.Equal(old, r) {
			t, _ = t.With(r)
		}
	}
	return t
}
