package elect_test

import (
	"fmt"
	"math"
	"math/rand"
	"regexp"
	"slices"
	"strings"
	"testing"

	"canton/api"
	"canton/elect"
	"canton/path"
	"canton/row"
	"canton/stamp"
	"canton/value"
)

func num(n int64) value.Value { return value.Value{Kind: api.Int, I: n} }

func text(s string) value.Value { return value.Value{Kind: api.Text, S: s} }

func list(l ...int64) value.Value { return value.Value{Kind: api.List, L: l} }

// none is the value of an attribute that is not there.
var none = value.Value{}

// made answers a row with attributes about those that count, too.
func made(key string, rep, load value.Value) row.Row {
	l := append(make([]row.Attr, 0, 8), row.Attr{Name: "a", Value: num(-100)})
	for _, a := range []row.Attr{{Name: "load", Value: load}, {Name: "loads", Value: num(-100)}, {Name: "rep", Value: rep}, {Name: "reps", Value: text("/a")}} {
		if a.Value.Kind != 0 {
			l = append(l, a)
		}
	}
	return row.Row{Key: key, Stamp: stamp.Stamp{Tick: 1, Origin: "/z/k"}, Attrs: l}
}

// ordinary answers a row that stands.
func ordinary(key, rep string, load int64) row.Row { return made(key, text(rep), num(load)) }

func told(l []elect.Choice) string {
	s := ""
	for _, c := range l {
		s += fmt.Sprintf("%q %q %d;", c.Key, c.Rep, c.Load)
	}
	return s
}

var aPath = regexp.MustCompile(`\A(/[a-z][a-z0-9]{0,7}){1,4}\z`)

// modelOf answers r's Choice, by a look at each attribute.
func modelOf(r row.Row) (c elect.Choice, stands bool) {
	c.Key = r.Key
	for _, a := range r.Attrs {
		switch {
		case a.Name == "rep" && a.Value.Kind == api.Text && aPath.MatchString(a.Value.S):
			c.Rep, stands = a.Value.S, true
		case a.Name == "load" && a.Value.Kind == api.Int:
			c.Load = a.Value.I
		}
	}
	return c, stands
}

func modelAhead(a, b elect.Choice) bool {
	return a.Load < b.Load || a.Load == b.Load && (a.Rep < b.Rep || a.Rep == b.Rep && a.Key < b.Key)
}

// modelOrder puts each row into its place among those ahead of it in l.
func modelOrder(l []row.Row) []elect.Choice {
	var out []elect.Choice
	for _, r := range l {
		c, stands := modelOf(r)
		if !stands {
			continue
		}
		at := 0
		for at < len(out) && !modelAhead(c, out[at]) {
			at++
		}
		out = slices.Insert(out, at, c)
	}
	return out
}

// holds wants of both calls what the second writing has.
func holds(t *testing.T, l []row.Row) {
	t.Helper()
	want := modelOrder(l)
	if got := told(elect.Order(l)); got != told(want) {
		t.Fatalf("P1501: Order(%v): %s, not %s", l, got, told(want))
	}
	first := elect.Choice{}
	if len(want) > 0 {
		first = want[0]
	}
	if c, ok := elect.Rep(l); c != first || ok != (len(want) > 0) {
		t.Fatalf("P1501: Rep(%v): %+v, %v, not %+v", l, c, ok, first)
	}
}

// wants holds Order against what somebody wrote down.
func wants(t *testing.T, l []row.Row, want ...elect.Choice) {
	t.Helper()
	if got := told(elect.Order(l)); got != told(want) {
		t.Errorf("P1501: Order: %s, not %s", got, told(want))
	}
	holds(t, l)
}

// stands tells whether a row with that rep stands, as both calls have it.
func stands(t *testing.T, rep value.Value) bool {
	t.Helper()
	l := []row.Row{made("k", rep, num(3))}
	c, ok := elect.Rep(l)
	if order := elect.Order(l); ok != (len(order) == 1) || ok && (c != order[0] || c != elect.Choice{Key: "k", Rep: rep.S, Load: 3}) || !ok && c != (elect.Choice{}) {
		t.Fatalf("P1501: of %+v: Rep %+v, %v, Order %s", rep, c, ok, told(order))
	}
	return ok
}

func TestP1501Ordinary(t *testing.T) {
	l := []row.Row{ordinary("n1", "/lab/n1", 7), ordinary("n2", "/lab/n2", 4), made("n3", none, num(1)), ordinary("n4", "/lab/n4", 9)}
	wants(t, l, elect.Choice{"n2", "/lab/n2", 4}, elect.Choice{"n1", "/lab/n1", 7}, elect.Choice{"n4", "/lab/n4", 9})
	if c, ok := elect.Rep(l); c != (elect.Choice{Key: "n2", Rep: "/lab/n2", Load: 4}) || !ok {
		t.Errorf("P1501: Rep: %+v, %v", c, ok)
	}
}

// TestP1501Turns has what counts later stand against what counts sooner.
func TestP1501Turns(t *testing.T) {
	wants(t, []row.Row{ordinary("a", "/a", 2), ordinary("b", "/b", 1)}, elect.Choice{"b", "/b", 1}, elect.Choice{"a", "/a", 2})
	wants(t, []row.Row{ordinary("a", "/b", 1), ordinary("b", "/a", 1)}, elect.Choice{"b", "/a", 1}, elect.Choice{"a", "/b", 1})
	wants(t, []row.Row{ordinary("b", "/a", 1), ordinary("a", "/a", 1)}, elect.Choice{"a", "/a", 1}, elect.Choice{"b", "/a", 1})
	wants(t, []row.Row{ordinary("a", "/a", 1), ordinary("a", "/a", 1)}, elect.Choice{"a", "/a", 1}, elect.Choice{"a", "/a", 1})
}

// TestP1501Bytes has reps that go by bytes otherwise than by parts or by length.
func TestP1501Bytes(t *testing.T) {
	rising := []string{"/a", "/a/b", "/a/b/c/d", "/a/z", "/a0", "/a0/a", "/a9", "/aa", "/aa/b", "/ab", "/b", "/z1", "/za"}
	var l []row.Row
	var want []elect.Choice
	for i, rep := range rising {
		l = append(l, ordinary(fmt.Sprintf("k%02d", len(rising)-i), rep, 0))
		want = append(want, elect.Choice{fmt.Sprintf("k%02d", len(rising)-i), rep, 0})
	}
	slices.Reverse(l)
	wants(t, l, want...)
}

// TestP1501Keys has Keys that go by bytes, what is no Name too.
func TestP1501Keys(t *testing.T) {
	rising := []string{"", "\x00", "A", "Z", "a", "a\x00", "a0", "aa", "b", "z", "\x7f", "é", "\xff"}
	var l []row.Row
	var want []elect.Choice
	for _, key := range rising {
		l = append(l, ordinary(key, "/a", 0))
		want = append(want, elect.Choice{key, "/a", 0})
	}
	slices.Reverse(l)
	wants(t, l, want...)
}

// TestP1501Loads has all pairs of loads, the ends of 64 bits too; what is no Int is 0.
func TestP1501Loads(t *testing.T) {
	loads := []value.Value{none, text("-7"), text(""), list(), list(-7), {Kind: 9}, {Kind: -1}}
	for _, n := range []int64{math.MinInt64, math.MinInt64 + 1, -1 << 32, -2, -1, 0, 1, 2, 1 << 31, 1 << 32, math.MaxInt64 - 1, math.MaxInt64} {
		loads = append(loads, num(n))
	}
	for _, a := range loads {
		c, ok := elect.Rep([]row.Row{made("k", text("/a"), a)})
		if !ok || c != (elect.Choice{Key: "k", Rep: "/a", Load: a.I}) {
			t.Errorf("P1501: of load %+v: %+v, %v", a, c, ok)
		}
		for _, b := range loads {
			holds(t, []row.Row{made("a", text("/b"), a), made("b", text("/a"), b)})
		}
	}
}

// TestP1501NoInt hands in loads that have more than their Kind names.
func TestP1501NoInt(t *testing.T) {
	for _, kind := range []int{-1, api.Text, api.List, 9} {
		c, ok := elect.Rep([]row.Row{made("k", text("/a"), value.Value{Kind: kind, I: 7, S: "7", L: []int64{7}})})
		if !ok || c != (elect.Choice{Key: "k", Rep: "/a"}) {
			t.Errorf("P1501: of a load of Kind %d: %+v, %v", kind, c, ok)
		}
	}
}

// TestP1501NoText hands in reps that are none, but for their Kind.
func TestP1501NoText(t *testing.T) {
	for _, rep := range []value.Value{none, num(1), list(1), {Kind: api.Int, S: "/a"}, {Kind: api.List, S: "/a"}, {Kind: 9, S: "/a"}, {Kind: -1, S: "/a"}} {
		if stands(t, rep) {
			t.Errorf("P1501: %+v stands", rep)
		}
	}
	l := []row.Row{{Key: "a"}, {Key: "b", Attrs: []row.Attr{{Name: "rep"}}}, {Key: "c", Attrs: []row.Attr{{Name: "load", Value: text("/a")}}}, {Key: "d", Attrs: []row.Attr{{Name: "re", Value: text("/a")}, {Name: "reps", Value: text("/a")}}}}
	wants(t, l)
}

// TestP1501Paths hands in all texts of up to six bytes out of five as rep.
func TestP1501Paths(t *testing.T) {
	texts := []string{""}
	for from := 0; len(texts[from]) < 6; from++ {
		for _, c := range "/a0A " {
			texts = append(texts, texts[from]+string(c))
		}
	}
	for _, s := range texts {
		if got := stands(t, text(s)); got != aPath.MatchString(s) || got != (path.Depth(s) > 0) {
			t.Errorf("P1501: %q stands: %v", s, got)
		}
	}
}

// TestP1501Reps has reps at the edges of what a path may be.
func TestP1501Reps(t *testing.T) {
	name := "abcdefg8"
	for _, c := range []struct {
		rep  string
		want bool
	}{
		{"/", false}, {"", false}, {"/a", true}, {"a", false}, {"/a/", false}, {"//a", false}, {"/a//b", false},
		{"/a/b", true}, {"/a/b/c", true}, {"/a/b/c/d", true}, {"/a/b/c/d/e", false}, {"/a/b/c/d/", false},
		{"/" + name, true}, {"/" + name + "9", false}, {strings.Repeat("/"+name, 4), true}, {strings.Repeat("/"+name, 5), false},
		{"/a/" + name + "9", false}, {"/a/1", false}, {"/A", false}, {"/a\n", false}, {" /a", false}, {"/*", false}, {"/**", false}, {"/é", false},
	} {
		if got := stands(t, text(c.rep)); got != c.want {
			t.Errorf("P1501: %q stands: %v", c.rep, got)
		}
	}
}

// some answers rows that stand and some that don't, few of them unlike each other.
func some() []row.Row {
	var l []row.Row
	for _, key := range []string{"a", "b"} {
		for _, rep := range []string{"/a", "/b", "/"} {
			for _, load := range []value.Value{num(-1), num(1), none} {
				l = append(l, made(key, text(rep), load))
			}
		}
	}
	return append(l, made("a", none, num(-1)))
}

// TestP1501Short holds all lists of up to four rows.
func TestP1501Short(t *testing.T) {
	rows := some()
	lists := [][]row.Row{nil}
	for from := 0; from < len(lists); from++ {
		holds(t, lists[from])
		for i := 0; i < len(rows) && len(lists[from]) < 4; i++ {
			lists = append(lists, append(slices.Clone(lists[from]), rows[i]))
		}
	}
}

// TestP1501Long holds long lists that somebody made up, each in several orders.
func TestP1501Long(t *testing.T) {
	draw := rand.New(rand.NewSource(15))
	reps := []value.Value{none, num(1), text("/"), text("x")}
	for range 60 {
		var l []row.Row
		unlike := 1 + draw.Int63n(20)
		for range draw.Intn(300) {
			rep := reps[draw.Intn(len(reps))]
			if draw.Intn(5) > 0 {
				rep = text(fmt.Sprintf("/r%d", draw.Int63n(unlike)))
			}
			load := num(draw.Int63n(unlike) - unlike/2)
			if draw.Intn(5) == 0 {
				load = none
			}
			l = append(l, made(fmt.Sprintf("k%d", draw.Int63n(unlike)), rep, load))
		}
		want := told(elect.Order(l))
		for range 4 {
			holds(t, l)
			draw.Shuffle(len(l), func(i, j int) { l[i], l[j] = l[j], l[i] })
			if got := told(elect.Order(l)); got != want {
				t.Fatalf("P1501: in another order: %s, not %s", got, want)
			}
		}
	}
}

// TestP1501NoneStands has nobody speak, of no rows and of many.
func TestP1501NoneStands(t *testing.T) {
	for n := range 100 {
		l := make([]row.Row, n)
		for i := range l {
			l[i] = made(fmt.Sprint("k", i), []value.Value{none, text("/"), num(1)}[i%3], num(int64(i)))
		}
		wants(t, l)
		l = append(l, ordinary("z", "/z", math.MaxInt64))
		wants(t, l, elect.Choice{"z", "/z", math.MaxInt64})
	}
}
