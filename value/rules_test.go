package value_test

import (
	"fmt"
	"slices"
	"strings"
	"testing"

	"quayside/api"
	"quayside/value"
)

// callAll is what every call of the layer answers at two values, at rows of them, and at a text.
func callAll(a, b api.Value, s string) string {
	r, q := api.Row{a, b}, api.Row{b}
	put, errPut := value.Put(r)
	taken, errTaken := value.Take(s)
	rows := value.CompareRows(r, q, []api.Sort{{Col: a.N}, {Col: 1}, {Col: b.Kind, Down: true}})
	return fmt.Sprint(value.Check(a), value.Compare(a, b), rows, value.Hash(a), value.Show(a), errPut, errTaken) + fmt.Sprintf(" %q %v", put, taken)
}

func oddTexts() []string {
	return []string{"", "\x00", "\x01", "\xff", "\x01\x00", "\x01\x01\x80", "\x01\x02\xff", "\x01\x02\x00", "\x01\x03\x01", "\x01\x03\x02", strings.Repeat("\x02", 300), strings.Repeat("\xff\x01", 1<<18)}
}

// TestR1: every call ends without a panic, at any values, rows, columns and texts.
func TestR1(t *testing.T) {
	defer func() {
		if r := recover(); r != nil {
			t.Error("panic:", r)
		}
	}()
	all := append(mayBe(), mayNotBe()...)
	all = append(all, text(strings.Repeat("'", 1<<16)), api.Value{Kind: api.MinInt, N: api.MinInt, S: strings.Repeat("\xff", 1<<16)})
	for k, a := range all {
		for m, b := range all {
			callAll(a, b, oddTexts()[(k+m)%11])
		}
	}
	for _, s := range oddTexts() {
		value.Take(s)
	}
	for _, col := range []int{api.MinInt, api.MinInt + 1, -1, 0, len(all) - 1, len(all), api.MaxInt} {
		value.CompareRows(all, nil, []api.Sort{{Col: col}})
		value.CompareRows(nil, all, []api.Sort{{Col: col, Down: true}})
	}
	value.Put(nil)
	value.Put(make(api.Row, 1<<18))
}

// TestR2: beside an error there is no text and no row, though a part of them could be told; and what is refused changes nothing for calls behind it.
func TestR2(t *testing.T) {
	refuse := func() {
		for _, v := range mayNotBe() {
			puts(t, append(mayBe(), v), "", api.ErrArg)
			if e := value.Check(v); e != api.ErrArg {
				t.Errorf("Check(%v): error %d", v, e)
			}
		}
		for _, s := range []string{"\x02\x03\x01", "\x01\x03\x01\x00", "\x03\x03\x01\x02\x01a\x04"} {
			if r, e := value.Take(s); len(r) != 0 || e != api.ErrForm {
				t.Errorf("Take(%q): %v, error %d", s, r, e)
			}
		}
	}
	for k, v := range mayBe() {
		was := callAll(v, truth(1), rawRow(mayBe()[:k]))
		refuse()
		if again := callAll(v, truth(1), rawRow(mayBe()[:k])); again != was {
			t.Errorf("at %v: %s, then %s", v, was, again)
		}
	}
}

// TestR3: rows and lists are not changed, nor what lies in the room behind them, which counts for nothing; answers are new memory; nil is the empty list.
func TestR3(t *testing.T) {
	room := api.Row{number(1), text("a"), truth(1), {Kind: 9, N: 9, S: "no"}, null}
	by := []api.Sort{{Col: 2}, {Col: 0, Down: true}, {Col: 4}, {Col: 1}}
	was, wasBy := slices.Clone(room), slices.Clone(by)
	puts(t, room[:3], "\x03\x01\x80\x00\x00\x00\x00\x00\x00\x01\x02\x01a\x03\x01", api.OK)
	puts(t, room[:0], "\x00", api.OK)
	puts(t, room, "", api.ErrArg)
	comparesRows(t, room[:2], room[:1], by[:1], 0)
	comparesRows(t, room[:2], room[:1], by[:3], 0)
	comparesRows(t, room[:2], room[:1], by, 1)
	comparesRows(t, room[:3], nil, by[:0], 0)
	comparesRows(t, room[:3], api.Row{}, by[:1], 1)
	comparesRows(t, room[:3], nil, by[:1], 1)
	if !slices.Equal(room, was) || !slices.Equal(by, wasBy) {
		t.Errorf("the lists are %v and %v now, were %v and %v", room, by, was, wasBy)
	}
	s := rawRow(room[:3])
	takes(t, (s + "more")[:len(s)], room[:3], api.OK)
	first, _ := value.Take(s)
	second, _ := value.Take(s)
	first[0], first[2] = text("changed"), null
	_ = append(first[:1], null)
	if !slices.Equal(second, room[:3]) {
		t.Errorf("another answer is %v now", second)
	}
	takes(t, s, room[:3], api.OK)
}

// TestR4: what is asked again is answered the same, whatever was asked between.
func TestR4(t *testing.T) {
	all, texts := append(mayBe(), mayNotBe()...), oddTexts()
	at := func(k int) string { return callAll(all[k], all[(k*7+3)%len(all)], texts[k%len(texts)]) }
	var first []string
	for k := range all {
		first = append(first, at(k))
	}
	for k, was := range slices.Backward(first) {
		if again := at(k); again != was {
			t.Errorf("at %v: %s, then %s", all[k], was, again)
		}
	}
}
