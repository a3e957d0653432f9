package print

import (
	"quayside/api"
	"quayside/num"
)

const noLimit = -1

func (w *writer) query(q api.Query) {
	w.list(len(q.Selects), " ", func(k int) {
		if k > 0 {
			w.put(joining(q.Selects[k].How), " ")
		}
		w.selectOne(q.Selects[k])
	})
	if len(q.Order) > 0 {
		w.put(" ORDER BY ")
		w.list(len(q.Order), ", ", func(k int) { w.key(q.Order[k]) })
	}
	if q.Limit != noLimit {
		w.put(" LIMIT ", num.Text(q.Limit))
	}
	if q.Offset != 0 {
		w.put(" OFFSET ", num.Text(q.Offset))
	}
}

func joining(how int) string {
	switch how {
	case api.SetAll:
		return "UNION ALL"
	case api.SetUnion:
		return "UNION"
	case api.SetIntersect:
		return "INTERSECT"
	case api.SetExcept:
		return "EXCEPT"
	}
	return ""
}

func (w *writer) selectOne(s api.Select) {
	w.put("SELECT ")
	if s.Distinct {
		w.put("DISTINCT ")
	}
	w.list(len(s.Items), ", ", func(k int) { w.item(s.Items[k]) })
	if len(s.From) > 0 {
		w.put(" FROM ")
		w.source(s.From[0])
		w.list(len(s.From)-1, "", func(k int) { w.joined(s.From[k+1]) })
	}
	w.condition(" WHERE ", s.Where)
	if len(s.Group) > 0 {
		w.put(" GROUP BY ")
		w.exprs(s.Group)
	}
	w.condition(" HAVING ", s.Having)
}

func (w *writer) item(i api.Item) {
	if i.Star {
		w.put("*")
		return
	}
	w.expr(i.Expr, orLevel)
	w.named(i.As)
}

func (w *writer) source(s api.Source) {
	w.put(name(s.Table))
	w.named(s.As)
}

// joined puts a source behind others, and how it is joined to them.
func (w *writer) joined(s api.Source) {
	switch {
	case s.Left:
		w.put(" LEFT JOIN ")
	case len(s.On) > 0:
		w.put(" JOIN ")
	default:
		w.put(", ")
	}
	w.source(s)
	w.condition(" ON ", s.On)
}

// condition puts a condition behind a word, if there is one.
func (w *writer) condition(word string, l []api.Expr) {
	if len(l) > 0 {
		w.put(word)
		w.expr(l[0], orLevel)
	}
}

func (w *writer) key(k api.Key) {
	if k.Place != 0 {
		w.put(num.Text(k.Place))
	} else {
		w.put(name(k.Name))
	}
	if k.Down {
		w.put(" DESC")
	}
}
