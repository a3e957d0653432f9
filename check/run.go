package check

import "quayside/api"

// What is more than these is refused as what may not be, so that what is within itself ends: no text leads to so much.
const (
	mostDeep  = 10000
	mostParts = 1 << 20
)

// run is how far a call went.
type run struct {
	tables []api.Schema
	deep   int // expressions within one another
	parts  int // expressions and columns
}

// fault is what is wrong, and where.
type fault struct {
	at  int
	why api.Errno
}

// refuse gives up at what is wrong first.
func refuse(at int, why api.Errno) { panic(fault{at, why}) }

// caught does something up to what is wrong, if anything is.
func caught(do func()) (at int, why api.Errno) {
	defer func() {
		if given := recover(); given != nil {
			wrong := given.(fault)
			at, why = wrong.at, wrong.why
		}
	}()
	do()
	return 0, api.OK
}

// enter begins an expression, which leave ends.
func (r *run) enter(e *api.Expr) {
	r.deep++
	if r.deep > mostDeep {
		refuse(e.At, api.ErrType)
	}
	r.count(1, e.At)
}

func (r *run) leave() { r.deep-- }

// count counts what is gone over.
func (r *run) count(parts, at int) {
	r.parts += parts
	if r.parts > mostParts {
		refuse(at, api.ErrType)
	}
}
