package snap

import (
	"iter"

	"quayside/api"
	"quayside/cow"
	"quayside/entry"
	"quayside/space"
	"quayside/value"
)

// The tables of a ledger, by numbers.
const (
	stockTable = iota
	holdsTable
	movesTable
	tables
)

const (
	maxColumns    = 16  // of a table
	buckets       = 64  // of a column
	bytesOfNumber = 2   // of a row, in a bucket
	pieceSize     = 30  // as many bytes as a value of layer 14 may have
	maxPieces     = 256 // of a text, so that one byte tells which
	bitsOfByte    = 8
)

// place is where a text stands in a ledger's tree: the row of a number in a table's part, or the numbers of the rows of a bucket, two bytes each, in a column's part.
type place struct{ part, number int }

func rowAt(table, n int) place { return place{table, n} }

// bucketAt stands behind all rows.
func bucketAt(table, col, bucket int) place { return place{maxColumns*(table+1) + col, bucket} }

// key is that of a piece of the text.
func (p place) key(piece int) string {
	return string([]byte{byte(p.part), byte(p.number >> bitsOfByte), byte(p.number), byte(piece)})
}

// numberOf is the number of a table's name, which is one.
func numberOf(name string) int {
	switch name {
	case "stock":
		return stockTable
	case "holds":
		return holdsTable
	}
	return movesTable
}

func bucketOf(v api.Value) int { return value.Hash(v) % buckets }

// rowsOf goes over the rows of a table, by their keys.
func rowsOf(l api.Ledger, table int) iter.Seq2[int, api.Row] {
	switch table {
	case stockTable:
		return rowsIn(l.Stocks, entry.StockRow)
	case holdsTable:
		return rowsIn(l.Holds, entry.HoldRow)
	}
	return rowsIn(l.Moves, entry.MoveRow)
}

func rowsIn[T any](list []T, rowOf func(T) api.Row) iter.Seq2[int, api.Row] {
	return func(yield func(int, api.Row) bool) {
		for n, one := range list {
			if !yield(n, rowOf(one)) {
				return
			}
		}
	}
}

// texts goes over all that a ledger is saved as, rising by the places.
func texts(l api.Ledger) iter.Seq2[place, string] {
	return func(yield func(place, string) bool) {
		for table := range tables {
			for n, r := range rowsOf(l, table) {
				text, _ := value.Put(r)
				if !yield(rowAt(table, n), text) {
					return
				}
			}
		}
		for table := range tables {
			for at, numbers := range indexOf(l, table) {
				if !yield(at, numbers) {
					return
				}
			}
		}
	}
}

// indexOf goes over the buckets of all columns of a table in which there are rows.
func indexOf(l api.Ledger, table int) iter.Seq2[place, string] {
	return func(yield func(place, string) bool) {
		var rows []api.Row
		for _, r := range rowsOf(l, table) {
			rows = append(rows, r)
		}
		for col := range widthOf(rows) {
			for bucket, numbers := range bucketsOf(rows, col) {
				if len(numbers) > 0 && !yield(bucketAt(table, col, bucket), string(numbers)) {
					return
				}
			}
		}
	}
}

func widthOf(rows []api.Row) int {
	if len(rows) == 0 {
		return 0
	}
	return len(rows[0])
}

// bucketsOf are the numbers of the rows in each bucket of a column.
func bucketsOf(rows []api.Row, col int) [buckets][]byte {
	var out [buckets][]byte
	for n, r := range rows {
		b := bucketOf(r[col])
		out[b] = append(out[b], byte(n>>bitsOfByte), byte(n))
	}
	return out
}

// pieces goes over the parts of a text; the last one is shorter than all others, which tells that it is.
func pieces(text string) iter.Seq2[int, string] {
	return func(yield func(int, string) bool) {
		for k := range len(text)/pieceSize + 1 {
			from := k * pieceSize
			if !yield(k, text[from:min(from+pieceSize, len(text))]) {
				return
			}
		}
	}
}

// cells goes over the keys and values of a ledger's tree, rising.
func cells(l api.Ledger) iter.Seq2[string, string] {
	return func(yield func(string, string) bool) {
		for at, text := range texts(l) {
			for k, piece := range pieces(text) {
				if !yield(at.key(k), piece) {
					return
				}
			}
		}
	}
}

// plant lays a ledger's tree; its root.
func plant(p *space.Space, l api.Ledger) (int, api.Errno) {
	t, _ := cow.Of(p, 0)
	for key, piece := range cells(l) {
		if e := t.Put(key, piece); e != api.OK {
			return 0, e
		}
	}
	return t.Root(), api.OK
}
