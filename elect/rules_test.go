package elect_test

import (
	"fmt"
	"math"
	"strings"
	"testing"

	"canton/api"
	"canton/elect"
	"canton/row"
	"canton/stamp"
	"canton/value"
)

// TestP1AnyData hands in what may not be, too: not rising, twice, of no Name.
func TestP1AnyData(t *testing.T) {
	long := strings.Repeat("/a", 1<<19)
	texts := []string{"", "a", "A", "\x00", "\xff\xfe", "/", "/a", "é", long}
	numbers := []int64{0, 1, -1, api.MaxTick, math.MaxInt64, math.MinInt64}
	var l []row.Row
	for i, key := range texts {
		for j, n := range numbers {
			v := value.Value{Kind: (i+j)%6 - 1, I: n, S: texts[(i+j)%len(texts)], L: numbers[j:]}
			w := value.Value{Kind: api.Text, S: texts[j]}
			attrs := [][]row.Attr{nil, {}, {{}}, {{Name: "rep", Value: v}, {Name: "load", Value: v}}, {{Name: "load", Value: w}, {Name: "load", Value: v}, {Name: "rep", Value: w}, {Name: "rep", Value: v}}, {{Name: key, Value: v}}}
			l = append(l, row.Row{Key: key, Stamp: stamp.Stamp{Tick: n, Origin: key}, Attrs: attrs[(i+j)%len(attrs)]})
		}
	}
	for i := range len(l) + 1 {
		elect.Order(l[i:])
		elect.Rep(l[:i])
	}
	many := make([]row.Row, 1<<16)
	elect.Order(many)
	elect.Rep(many)
	for i := range many {
		many[i] = ordinary("k", "/a", int64(i%7))
	}
	elect.Order(many)
	elect.Rep(many)
	wide := []row.Row{{Key: "k", Attrs: make([]row.Attr, 1<<16)}}
	elect.Order(wide)
	elect.Rep(wide)
}

// handed answers rows with room to spare.
func handed() []row.Row {
	return append(make([]row.Row, 0, 8),
		ordinary("d", "/d", 4), ordinary("b", "/b", 2), made("x", none, num(1)), ordinary("c", "/c", 3), made("a", text("/a"), list(append(make([]int64, 0, 4), 1)...)))
}

// whole is all that l has, the spare room too.
func whole(l []row.Row) string {
	s := ""
	for _, r := range l[:cap(l)] {
		s += fmt.Sprintf("%q %+v\n", r.Key, r.Stamp)
		for _, a := range r.Attrs[:cap(r.Attrs)] {
			s += fmt.Sprintf(" %q %d %d %q %v;", a.Name, a.Value.Kind, a.Value.I, a.Value.S, a.Value.L[:cap(a.Value.L)])
		}
	}
	return s
}

// fill writes over rows, their spare room too.
func fill(l []row.Row) {
	for i := range l[:cap(l)] {
		r := &l[:cap(l)][i]
		for j := range r.Attrs[:cap(r.Attrs)] {
			r.Attrs[:cap(r.Attrs)][j] = row.Attr{Name: "filled", Value: num(99)}
		}
		*r = row.Row{Key: "filled"}
	}
}

// fillChoices writes over Choices, their spare room too.
func fillChoices(l []elect.Choice) {
	for i := range l[:cap(l)] {
		l[:cap(l)][i] = elect.Choice{Key: "filled", Rep: "/filled", Load: 99}
	}
}

// calls answers each call's answer as a text, and writes over it then.
func calls(l []row.Row) string {
	order := elect.Order(l)
	c, ok := elect.Rep(l)
	s := told(order) + fmt.Sprint(c, ok)
	fillChoices(order)
	return s
}

const wantOfHanded = `"a" "/a" 0;"b" "/b" 2;"c" "/c" 3;"d" "/d" 4;{a /a 0} true`

// TestP2HandedIn holds what is handed in against what it was, answers written over, too.
func TestP2HandedIn(t *testing.T) {
	l := handed()
	before := whole(l)
	for range 2 {
		if s := calls(l); s != wantOfHanded {
			t.Errorf("P2: %s, not %s", s, wantOfHanded)
		}
		if after := whole(l); after != before {
			t.Errorf("P2: left\n%s\nof\n%s", after, before)
		}
	}
}

// TestP2Kept writes over what was handed in, and over one answer, and looks at the others.
func TestP2Kept(t *testing.T) {
	l := handed()
	order, other := elect.Order(l), elect.Order(l)
	c, ok := elect.Rep(l)
	fill(l)
	fillChoices(other)
	if s := told(order) + fmt.Sprint(c, ok); s != wantOfHanded {
		t.Errorf("P2: %s, not %s", s, wantOfHanded)
	}
}

// TestP2Empty hands in no list (nil) and an empty one: they are the same.
func TestP2Empty(t *testing.T) {
	for i, l := range [][]row.Row{nil, {}, {{Key: "a"}}, {{Key: "a", Attrs: []row.Attr{}}}} {
		if order := elect.Order(l); len(order) != 0 {
			t.Errorf("P2: %d: %s", i, told(order))
		}
		if c, ok := elect.Rep(l); c != (elect.Choice{}) || ok {
			t.Errorf("P4: %d: %+v, %v", i, c, ok)
		}
	}
}

func TestP3SameCallsSameAnswers(t *testing.T) {
	for range 100 {
		if s := calls(handed()); s != wantOfHanded {
			t.Fatalf("P3: %s, not %s", s, wantOfHanded)
		}
	}
}

// TestP4NothingBeside has rows that come near to standing and answer nothing.
func TestP4NothingBeside(t *testing.T) {
	for _, rep := range []value.Value{none, num(5), list(5), text("/"), text("a"), {Kind: 9, S: "/a"}} {
		if c, ok := elect.Rep([]row.Row{made("k", rep, num(5))}); c != (elect.Choice{}) || ok {
			t.Errorf("P4: %+v: %+v, %v", rep, c, ok)
		}
	}
}
