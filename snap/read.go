package snap

import (
	"iter"
	"strings"

	"quayside/api"
	"quayside/cow"
	"quayside/entry"
	"quayside/ledger"
	"quayside/space"
	"quayside/value"
)

// ledger is the ledger that was saved.
func (x saved) ledger(p *space.Space) (api.Ledger, api.Errno) {
	t := x.tree(p)
	// Where a page can not be read keys end without a word.
	if e := t.Check(); e != api.OK {
		return api.Ledger{}, e
	}
	l, is := gathered(t)
	l.Ops = x.ops
	if !is || ledger.Check(l) != api.OK || !isPlanted(t, l) {
		return api.Ledger{}, api.ErrPage
	}
	return l, api.OK
}

// gathered is the ledger of a tree's rows; false: they are none.
func gathered(t *cow.Tree) (api.Ledger, bool) {
	var l api.Ledger
	text := ""
	for key, piece := range t.From("") {
		table := int(key[0])
		if table >= tables {
			break
		}
		text += piece
		if len(piece) == pieceSize {
			continue
		}
		if !takeRow(&l, table, text) {
			return api.Ledger{}, false
		}
		text = ""
	}
	return l, true
}

// takeRow takes a row of a table into a ledger.
func takeRow(l *api.Ledger, table int, text string) bool {
	r, e := value.Take(text)
	if e != api.OK {
		return false
	}
	switch table {
	case stockTable:
		return takeOne(&l.Stocks, r, entry.RowStock)
	case holdsTable:
		return takeOne(&l.Holds, r, entry.RowHold)
	}
	return takeOne(&l.Moves, r, entry.RowMove)
}

func takeOne[T any](list *[]T, r api.Row, of func(api.Row) (T, api.Errno)) bool {
	one, e := of(r)
	*list = append(*list, one)
	return e == api.OK
}

// isPlanted tells whether a tree has just the cells of a ledger, those of its indexes among them.
func isPlanted(t *cow.Tree, l api.Ledger) bool {
	type cell struct{ key, piece string }
	var there []cell
	for key, piece := range t.From("") {
		there = append(there, cell{key, piece})
	}
	k := 0
	for key, piece := range cells(l) {
		if k == len(there) || there[k] != (cell{key, piece}) {
			return false
		}
		k++
	}
	return k == len(there)
}

// look are the rows of a table with a value in a column: of those of the value's bucket.
func look(t *cow.Tree, table, col int, v api.Value) ([]api.Row, api.Errno) {
	numbers, e := read(t, bucketAt(table, col, bucketOf(v)))
	if e == api.ErrNone {
		return nil, api.OK
	}
	if e != api.OK {
		return nil, e
	}
	var rows []api.Row
	for n := range numbersIn(numbers) {
		r, e := readRow(t, table, n)
		if e != api.OK {
			return nil, e
		}
		if col < len(r) && r[col] == v {
			rows = append(rows, r)
		}
	}
	return rows, api.OK
}

// numbersIn goes over the numbers of a bucket.
func numbersIn(text string) iter.Seq[int] {
	return func(yield func(int) bool) {
		for k := 0; k+1 < len(text); k += bytesOfNumber {
			if !yield(int(text[k])<<bitsOfByte | int(text[k+1])) {
				return
			}
		}
	}
}

// readRow is a row that an index tells.
func readRow(t *cow.Tree, table, n int) (api.Row, api.Errno) {
	text, e := read(t, rowAt(table, n))
	if e == api.ErrNone {
		return nil, api.ErrPage
	}
	if e != api.OK {
		return nil, e
	}
	r, e := value.Take(text)
	if e != api.OK {
		return nil, api.ErrPage
	}
	return r, api.OK
}

// read is the text at a place; ErrNone, if there is none.
func read(t *cow.Tree, at place) (string, api.Errno) {
	var text strings.Builder
	for k := range maxPieces {
		piece, e := t.Get(at.key(k))
		if e == api.ErrNone && k > 0 {
			return "", api.ErrPage
		}
		if e != api.OK {
			return "", e
		}
		text.WriteString(piece)
		if len(piece) < pieceSize {
			return text.String(), api.OK
		}
	}
	return "", api.ErrPage
}
