package btree

import (
	"slices"
	"testing"
)

// even is how deep a node is, with all its leaves as deep and all nodes below as full as they must be; else -1.
func even[V any](n *node[int, V], root bool) int {
	if !slices.IsSortedFunc(n.items, func(a, b item[int, V]) int { return a.key - b.key }) || len(n.items) > most || len(n.items) < 1 || !root && len(n.items) < least {
		return -1
	}
	if n.leaf() {
		return 1
	}
	if len(n.kids) != len(n.items)+1 {
		return -1
	}
	deep := even(n.kids[0], false)
	for _, kid := range n.kids {
		if d := even(kid, false); d < 0 || d != deep {
			return -1
		}
	}
	return deep + 1
}

// TestBt2Even: Deep is the same to every leaf, which no call of the tree can tell of another leaf than the first.
func TestBt2Even(t *testing.T) {
	var x Tree[int, int]
	seed := uint64(2463534242)
	for step := range 12000 {
		seed ^= seed << 13
		seed ^= seed >> 7
		seed ^= seed << 17
		key := int(seed >> 8 % 1500)
		// More come than go, then more go than come.
		if seed>>40%10 < uint64(2+6*(step/4000%2)) {
			x = x.Without(key)
		} else {
			x = x.With(key, step)
		}
		if x.root == nil {
			continue
		}
		if deep := even(x.root, true); deep != x.Deep() {
			t.Fatalf("step %d, %d keys: even to %d, Deep %d", step, x.Len(), deep, x.Deep())
		}
	}
}
