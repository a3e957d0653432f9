package snap

import (
	"strings"

	"quayside/api"
	"quayside/cow"
	"quayside/space"
	"quayside/value"
)

// rootName is the name of the root of the tree in which all names of ledgers are.
const rootName = "ledgers"

const keySize = api.MaxName + 1

func mayName(name string) bool { return name != "" && len(name) <= api.MaxName }

// keyOf is a name with noughts behind it, and how many bytes it has: keys stand as the names do. They have one length, so that a Drop takes no more than a page for each on the way to the name.
func keyOf(name string) string {
	return name + strings.Repeat("\x00", api.MaxName-len(name)) + string([]byte{byte(len(name))})
}

// nameOf is the name of a key; false: it is the key of none.
func nameOf(key string) (string, bool) {
	if len(key) != keySize {
		return "", false
	}
	size := int(key[api.MaxName])
	if size < 1 || size > api.MaxName {
		return "", false
	}
	name := key[:size]
	return name, keyOf(name) == key
}

// saved is what stands by a name: the root of the ledger's tree, 0 of one without rows, and how many operations it had.
type saved struct{ root, ops int }

func (x saved) text() string {
	text, _ := value.Put(api.Row{{Kind: api.Int, N: x.root}, {Kind: api.Int, N: x.ops}})
	return text
}

func savedOf(text string) (saved, api.Errno) {
	r, e := value.Take(text)
	if e != api.OK || len(r) != 2 {
		return saved{}, api.ErrPage
	}
	x := saved{root: r[0].N, ops: r[1].N}
	if x.root < 0 || x.text() != text {
		return saved{}, api.ErrPage
	}
	return x, api.OK
}

func (x saved) tree(p *space.Space) *cow.Tree {
	t, _ := cow.Of(p, x.root)
	return t
}

// namesOf is the tree of all names.
func namesOf(p *space.Space) *cow.Tree {
	root, _ := p.Named(rootName)
	t, _ := cow.Of(p, root)
	return t
}

// commit lets the tree of all names be that of the space, sure.
func commit(p *space.Space, names *cow.Tree) api.Errno {
	e := api.OK
	if names.Root() == 0 {
		e = p.Forget(rootName)
	} else {
		e = p.Name(rootName, names.Root())
	}
	if e != api.OK {
		return e
	}
	return p.Commit()
}

// savedBy is what stands by a name.
func savedBy(p *space.Space, name string) (saved, api.Errno) {
	if !mayName(name) {
		return saved{}, api.ErrNone
	}
	text, e := namesOf(p).Get(keyOf(name))
	if e != api.OK {
		return saved{}, e
	}
	return savedOf(text)
}

// allSaved are all names, rising, and what stands by each.
func allSaved(p *space.Space) ([]string, []saved, api.Errno) {
	tree := namesOf(p)
	// Where a page can not be read keys end without a word.
	if e := tree.Check(); e != api.OK {
		return nil, nil, e
	}
	var names []string
	var all []saved
	for key, text := range tree.From("") {
		name, is := nameOf(key)
		x, e := savedOf(text)
		if !is || e != api.OK {
			return nil, nil, api.ErrPage
		}
		names, all = append(names, name), append(all, x)
	}
	return names, all, api.OK
}

// putName lets a ledger that lies in pages already be that of a name; the pages of the one that was there are released.
func putName(p *space.Space, name string, x saved) api.Errno {
	old, e := savedBy(p, name)
	if e == api.OK {
		e = old.tree(p).Clear()
	}
	if e != api.OK && e != api.ErrNone {
		return e
	}
	names := namesOf(p)
	if e := names.Put(keyOf(name), x.text()); e != api.OK {
		return e
	}
	return commit(p, names)
}

// dropName takes a name away, and releases the pages of its ledger.
func dropName(p *space.Space, name string) api.Errno {
	x, e := savedBy(p, name)
	if e != api.OK {
		return e
	}
	names := namesOf(p)
	// A page for each on the way to the name is taken, even if fewer would do: so it is promised. Then the key is dropped in these.
	if e := names.Put(keyOf(name), x.text()); e != api.OK {
		return e
	}
	if e := names.Drop(keyOf(name)); e != api.OK {
		return e
	}
	if e := x.tree(p).Clear(); e != api.OK {
		return e
	}
	return commit(p, names)
}
