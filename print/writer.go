package print

import (
	"strings"

	"quayside/api"
	"quayside/lex"
)

// What was not parsed may be within itself, and then has no end: beyond these, nothing more is put. All that was parsed is far within them.
const (
	mostDeep = 1000
	mostLong = 1 << 20
)

// writer is what was put, and how many expressions are begun that are not ended yet.
type writer struct {
	text strings.Builder
	deep int
}

func (w *writer) full() bool { return w.text.Len() > mostLong }

// put puts parts, one behind the other.
func (w *writer) put(parts ...string) {
	for _, part := range parts {
		if !w.full() {
			w.text.WriteString(part)
		}
	}
}

// list puts so many, and a text between.
func (w *writer) list(many int, between string, one func(k int)) {
	for k := 0; k < many && !w.full(); k++ {
		if k > 0 {
			w.put(between)
		}
		one(k)
	}
}

// named puts the other name of what was put, if it has one.
func (w *writer) named(as string) {
	if as != "" {
		w.put(" AS ", name(as))
	}
}

func name(s string) string { return lex.Put(api.Token{Kind: api.TokWord, Text: s}) }
