package check

import "quayside/api"

func (r *run) query(q *api.Query) api.Core {
	c := api.Core{Limit: q.Limit, Offset: q.Offset}
	for k := range q.Selects {
		p, columns := r.part(&q.Selects[k], &c.Subs)
		if k == 0 {
			c.Columns = columns
		} else {
			together(c.Columns, columns)
		}
		c.Parts = append(c.Parts, p)
	}
	for _, key := range q.Order {
		c.Order = append(c.Order, api.Sort{Col: placeOf(key, c.Columns), Down: key.Down})
	}
	return c
}

// together makes the columns of the selects so far those of one more, too.
func together(columns, more []api.Column) {
	if len(columns) != len(more) {
		refuse(0, api.ErrWidth)
	}
	for k := range columns {
		c := &columns[k]
		kind, ok := agree(*c, more[k])
		if !ok {
			refuse(0, api.ErrType)
		}
		c.Kind, c.Null = kind, c.Null || more[k].Null
	}
}

// placeOf is the number of the column by which a key orders.
func placeOf(key api.Key, columns []api.Column) int {
	if key.Place != 0 {
		if key.Place < 1 || key.Place > len(columns) {
			refuse(key.At, api.ErrName)
		}
		return key.Place - 1
	}
	col, ok := onlyOne(columns, func(k int) bool { return columns[k].Name == key.Name })
	if !ok || key.Name == "" {
		refuse(key.At, api.ErrName)
	}
	return col
}

// onlyOne is the number of the only column that fits; false: none does, or more than one.
func onlyOne(columns []api.Column, fits func(k int) bool) (int, bool) {
	col, found := 0, 0
	for k := range columns {
		if fits(k) {
			col, found = k, found+1
		}
	}
	return col, found == 1
}
