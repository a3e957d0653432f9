package space_test

import (
	"fmt"
	"slices"
	"testing"

	"quayside/api"
	"quayside/disk"
	"quayside/space"
)

// run does steps to a space and to its model, till the power goes off, or none is left; what it may be behind a crash then, and whether the power is on.
func run(t *testing.T, s *space.Space, m *model, steps []step) ([]*model, bool) {
	t.Helper()
	for _, x := range steps {
		n, e := do(s, x)
		if e == api.ErrOff && x.kind == "Commit" {
			return []*model{m.rolledBack(), m.committed()}, false
		}
		if e == api.ErrOff {
			return []*model{m.rolledBack()}, false
		}
		if want, wantErr := m.do(x); n != want || e != wantErr {
			t.Fatalf("%.60v: %d, error %d, want %d, error %d", x, n, e, want, wantErr)
		}
	}
	return []*model{m.rolledBack()}, true
}

// oneOf is the model that a space is as.
func oneOf(t *testing.T, what string, s *space.Space, may []*model) *model {
	t.Helper()
	wrong := ""
	for _, m := range may {
		x := differs(s, m)
		if x == "" {
			return m
		}
		wrong += "\n" + x
	}
	t.Fatalf("%s: it is none of %d:%s", what, len(may), wrong)
	return nil
}

// survivors are ways in which of so many writes some survive: none, all, the first half, the last one alone, all but the first one, each second one, any, and parts.
func survivors(x *dice, n int) [][]int {
	out := make([][]int, 9)
	for k := range n {
		whole := func(yes bool) int {
			if yes {
				return 32
			}
			return 0
		}
		out[1] = append(out[1], 32)
		out[2] = append(out[2], whole(k < n/2))
		out[3] = append(out[3], whole(k == n-1))
		out[4] = append(out[4], whole(k > 0))
		out[5] = append(out[5], whole(k%2 == 0))
		out[6] = append(out[6], 32*x.below(2))
		out[7] = append(out[7], x.below(40)-4)
		out[8] = append(out[8], pick(x, 1, 4, 8, 31))
	}
	return out
}

// TestSp5EachWriting: a run of calls, with a crash at each of its writings, and of what was not sure each kind of survivors: it is as it was committed last, or as the Commit commits in whose midst it is; it is the same behind a second crash; and it can be gone on with.
func TestSp5EachWriting(t *testing.T) {
	for seed := range 4 {
		x := dice(2862933555777941757 + 7919*seed)
		size := 1 + x.below(6)
		from, to := 3, 3+8*(size+3)+x.below(8)
		outside := signs(to + 9)
		steps := x.steps(70, size)
		fuse, on := 0, false
		midst, done := 0, 0
		for ; !on; fuse++ {
			for way := range 9 {
				what := fmt.Sprintf("run %d, fuse %d, way %d", seed, fuse, way)
				d := diskOf(t, outside)
				s := opened(t, d, from, to)
				must(t, "Fuse", d.Fuse(fuse), api.OK)
				var may []*model
				may, on = run(t, s, newModel(size), steps)
				crash(t, d, survivors(&x, d.Waits())[way]...)
				s = opened(t, d, from, to)
				m := oneOf(t, what, s, may)
				if len(may) == 2 {
					midst++
					if m == may[1] {
						done++
					}
				}
				if d.Waits() != 0 {
					t.Fatalf("%s: Open has written", what)
				}
				crash(t, d)
				s = opened(t, d, from, to)
				same(t, what+", again", s, m)
				may, _ = run(t, s, m, steps[:12])
				crash(t, d)
				same(t, what+", gone on", opened(t, d, from, to), may[0])
				if bytesOf(t, d, 0, from)+bytesOf(t, d, from+8*(size+3), d.Size()) != outside[:from*32]+outside[(from+8*(size+3))*32:] {
					t.Fatalf("%s: what is not the space's was written", what)
				}
			}
		}
		if fuse < 100 || midst < 100 || done < 10 {
			t.Errorf("run %d: %d writings, %d crashes in the midst of a Commit, of which %d were done", seed, fuse, midst, done)
		}
	}
}

// TestSp5ManyCrashes: crashes one behind the other, upon what the ones ahead left.
func TestSp5ManyCrashes(t *testing.T) {
	for seed := range 150 {
		x := dice(3935559000370003845 + 7919*seed)
		size := 1 + x.below(8)
		d := newDisk(t, 8*(size+3))
		m := newModel(size)
		for n := range 30 {
			s := opened(t, d, 0, d.Size())
			same(t, fmt.Sprintf("run %d, crash %d", seed, n), s, m)
			must(t, "Fuse", d.Fuse(x.below(70)), api.OK)
			may, _ := run(t, s, m, x.steps(25, size))
			crash(t, d, pick(&x, survivors(&x, d.Waits())...)...)
			m = oneOf(t, fmt.Sprintf("run %d, behind crash %d", seed, n), opened(t, d, 0, d.Size()), may)
		}
	}
}

// changes are of each kind, upon what committing has committed.
func changes() []step {
	return []step{{kind: "Release", n: 1}, {kind: "Alloc"}, {kind: "Write", n: 3, text: full(3)}, {kind: "Name", text: "a", n: 3}, {kind: "Name", text: "c", n: 2}, {kind: "Forget", text: "b"}}
}

// committed are the bytes of a disk whose space was committed so often, twice or more, all of them sure, and the space's model.
func committed(t *testing.T, turn int) (string, *model) {
	t.Helper()
	d, s := small(t, 3)
	m := newModel(3)
	both(t, s, m, step{kind: "Alloc"}, step{kind: "Write", n: 1, text: full(1)}, step{kind: "Name", text: "a", n: 1}, step{kind: "Commit"})
	both(t, s, m, step{kind: "Alloc"}, step{kind: "Write", n: 2, text: full(2)}, step{kind: "Name", text: "b", n: 2})
	for s.Turn() < turn {
		both(t, s, m, step{kind: "Commit"})
	}
	return bytesOf(t, d, 0, d.Size()), m
}

// goneOff is a disk of bytes of committed, on which the changes were done, and then a Commit with a fuse; what it may be behind a crash, and whether the power is on.
func goneOff(t *testing.T, image string, m *model, fuse int) (*disk.Disk, []*model, bool) {
	t.Helper()
	d := diskOf(t, image)
	s := opened(t, d, 0, d.Size())
	after := m.rolledBack()
	both(t, s, after, changes()...)
	must(t, "Fuse", d.Fuse(fuse), api.OK)
	may, on := run(t, s, after, []step{{kind: "Commit"}})
	return d, may, on
}

// lastFuse is the greatest fuse at which the Commit is refused.
func lastFuse(t *testing.T, image string, m *model) int {
	t.Helper()
	for fuse := 0; ; fuse++ {
		if _, _, on := goneOff(t, image, m, fuse); on {
			return fuse - 1
		}
	}
}

// eachKept tells all lists of so many of the numbers.
func eachKept(n int, of []int, tell func(kept []int)) {
	kept := make([]int, n)
	var each func(k int)
	each = func(k int) {
		if k == n {
			tell(kept)
			return
		}
		for _, x := range of {
			kept[k] = x
			each(k + 1)
		}
	}
	each(0)
}

// TestSp5EachPart: a crash at each writing of a Commit, with every part of what it had written, and was not sure then, kept, lost or torn.
func TestSp5EachPart(t *testing.T) {
	image, m := committed(t, 2)
	crashes := 0
	for fuse := range lastFuse(t, image, m) + 2 {
		d, _, _ := goneOff(t, image, m, fuse)
		// More wait ahead of the first flush, of the pages: all but the last eight are lost, or kept, together.
		ahead := max(d.Waits()-8, 0)
		eachKept(d.Waits()-ahead, []int{0, 11, 32}, func(kept []int) {
			for _, all := range []int{0, 32} {
				d, may, _ := goneOff(t, image, m, fuse)
				crash(t, d, append(slices.Repeat([]int{all}, ahead), kept...)...)
				oneOf(t, fmt.Sprintf("fuse %d, kept %d", fuse, kept), opened(t, d, 0, d.Size()), may)
				crashes++
			}
		})
	}
	if crashes < 1<<14 {
		t.Errorf("only %d crashes", crashes)
	}
}

// TestSp5EachByte: the last writing of a Commit torn at each byte, in turns of which bytes carry over: it is as ahead of it, or as it commits, and that just if all its bytes are there.
func TestSp5EachByte(t *testing.T) {
	for _, turn := range []int{2, 3, 254, 255, 256, 257, 1<<16 - 2, 1<<16 - 1, 1 << 16, 1<<16 + 1} {
		image, m := committed(t, turn)
		fuse := lastFuse(t, image, m)
		whole, _, _ := goneOff(t, image, m, fuse)
		crash(t, whole, 32)
		want := bytesOf(t, whole, 0, whole.Size())
		for kept := range 33 {
			d, may, _ := goneOff(t, image, m, fuse)
			if d.Waits() != 1 || len(may) != 2 {
				t.Fatalf("%d writes wait", d.Waits())
			}
			crash(t, d, kept)
			k := 0
			if bytesOf(t, d, 0, d.Size()) == want {
				k = 1
			}
			same(t, fmt.Sprintf("turn %d, %d bytes", turn, kept), opened(t, d, 0, d.Size()), may[k])
			if kept == 0 && k != 0 {
				t.Error("with nothing of it kept it is there")
			}
		}
	}
}

// TestSp5Beside: two spaces on one disk, beside one another: each one is as it was committed, whatever is done to the other one, and behind crashes in the midst of both.
func TestSp5Beside(t *testing.T) {
	for seed := range 60 {
		x := dice(88172645463325252 + 7919*seed)
		d := newDisk(t, 120)
		bounds := [][2]int{{2, 61}, {61, 119}}
		models := []*model{newModel(4), newModel(4)}
		for n := range 12 {
			spaces := []*space.Space{opened(t, d, 2, 61), opened(t, d, 61, 119)}
			may := [][]*model{{models[0]}, {models[1]}}
			must(t, "Fuse", d.Fuse(20+x.below(120)), api.OK)
			for on := true; on && x.below(60) > 0; {
				k := x.below(2)
				may[k], on = run(t, spaces[k], models[k], x.steps(1, 4))
				if on && x.below(5) == 0 {
					same(t, "the other one", spaces[1-k], models[1-k])
				}
			}
			crash(t, d, pick(&x, survivors(&x, d.Waits())...)...)
			for k, b := range bounds {
				if len(may[k]) == 1 {
					may[k] = []*model{models[k].rolledBack()}
				}
				models[k] = oneOf(t, fmt.Sprintf("run %d, crash %d, space %d", seed, n, k), opened(t, d, b[0], b[1]), may[k])
			}
		}
		if bytesOf(t, d, 0, 2)+bytesOf(t, d, 119, 120) != string(make([]byte, 96)) {
			t.Error("what is neither's was written")
		}
	}
}

// TestSp1Sp2Sp3Sp4Model holds spaces against models, step by step, over long runs.
func TestSp1Sp2Sp3Sp4Model(t *testing.T) {
	for seed := range 60 {
		x := dice(1442695040888963407 + 7919*seed)
		size := pick(&x, 1, 2, 3, 7, 8, 9, 17, 40)
		d := newDisk(t, 8*(size+3)+x.below(8))
		s, m := opened(t, d, 0, d.Size()), newModel(size)
		for k := range 600 {
			one := x.step(size)
			both(t, s, m, one)
			same(t, fmt.Sprintf("run %d, step %d, %.40v", seed, k, one), s, m)
			if x.below(40) == 0 {
				crash(t, d, pick(&x, survivors(&x, d.Waits())...)...)
				s, m = opened(t, d, 0, d.Size()), m.rolledBack()
				same(t, fmt.Sprintf("run %d, opened behind step %d", seed, k), s, m)
			}
		}
		if m.turn < 20 {
			t.Errorf("run %d: only %d turns", seed, m.turn)
		}
	}
}
