package check

import (
	"slices"

	"quayside/api"
)

// row is the row of a select, as far as its sources were met.
type row struct {
	columns []api.Column
	of      []string // by which name the source of each column goes
	goes    []string // by which name each source goes
}

// names tells which column is meant, and what it is; false: none, or more than one.
type names func(table, name string) (int, api.Column, bool)

// names tells it of all sources that were met when it is asked.
func (w *row) names() names {
	return func(table, name string) (int, api.Column, bool) {
		col, ok := onlyOne(w.columns, func(k int) bool {
			return w.columns[k].Name == name && (table == "" || table == w.of[k])
		})
		if !ok {
			return 0, api.Column{}, false
		}
		c := w.columns[col]
		return col, api.Column{Kind: c.Kind, Null: c.Null}, true
	}
}

// source adds a source's columns to the row.
func (r *run) source(s *api.Source, w *row) {
	goes := s.As
	if goes == "" {
		goes = s.Table
	}
	at := slices.IndexFunc(r.tables, func(t api.Schema) bool { return t.Name == s.Table })
	if at < 0 || slices.Contains(w.goes, goes) {
		refuse(s.At, api.ErrName)
	}
	w.goes = append(w.goes, goes)
	columns := r.tables[at].Columns
	r.count(len(columns), s.At)
	for _, c := range columns {
		c.Null = c.Null || s.Left
		w.columns, w.of = append(w.columns, c), append(w.of, goes)
	}
}
