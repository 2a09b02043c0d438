package digest_test

import (
	"fmt"
	"math"
	"math/rand"
	"slices"
	"strings"
	"testing"

	"canton/api"
	"canton/digest"
	"canton/row"
	"canton/stamp"
	"canton/table"
	"canton/value"
)

func num(n int64) value.Value { return value.Value{Kind: api.Int, I: n} }

func text(s string) value.Value { return value.Value{Kind: api.Text, S: s} }

func list(l ...int64) value.Value { return value.Value{Kind: api.List, L: l} }

func at(tick int64) stamp.Stamp { return stamp.Stamp{Tick: tick, Inc: 1, Seq: 1, Origin: "/z/k"} }

// made answers a row of each Kind of value, its lists with room to spare.
func made(key string, tick int64) row.Row {
	l := append(make([]row.Attr, 0, 8), row.Attr{Name: "l", Value: list(append(make([]int64, 0, 8), tick, tick+1)...)})
	l = append(l, row.Attr{Name: "n", Value: num(tick)}, row.Attr{Name: "t", Value: text(key)})
	return row.Row{Key: key, Stamp: at(tick), Attrs: l}
}

func mark(key string, tick int64) digest.Mark { return digest.Mark{Key: key, Stamp: at(tick)} }

// told is all that rows have, in Go's own words, but that no list is an empty one.
func told(l []row.Row) string {
	s := ""
	for _, r := range l {
		s += fmt.Sprintf("%q %+v", r.Key, r.Stamp)
		for _, a := range r.Attrs {
			s += fmt.Sprintf(" %q %d %d %q %v;", a.Name, a.Value.Kind, a.Value.I, a.Value.S, a.Value.L)
		}
		s += "\n"
	}
	return s
}

// toldMarks is all that marks have, but that no list is an empty one.
func toldMarks(l []digest.Mark) string {
	s := ""
	for _, m := range l {
		s += fmt.Sprintf("%q %+v\n", m.Key, m.Stamp)
	}
	return s
}

func toldKeys(l []string) string { return fmt.Sprintf("%q", l) }

// modelSend looks for each row at all marks.
func modelSend(l []row.Row, other []digest.Mark) []row.Row {
	var out []row.Row
	for _, r := range l {
		if !slices.ContainsFunc(other, func(m digest.Mark) bool { return m.Key == r.Key && stamp.Compare(m.Stamp, r.Stamp) >= 0 }) {
			out = append(out, r)
		}
	}
	return out
}

// modelWant looks for each mark at all rows.
func modelWant(l []row.Row, other []digest.Mark) []string {
	var out []string
	for _, m := range other {
		if !slices.ContainsFunc(l, func(r row.Row) bool { return m.Key == r.Key && stamp.Compare(r.Stamp, m.Stamp) >= 0 }) {
			out = append(out, m.Key)
		}
	}
	return out
}

func modelPick(l []row.Row, keys []string) []row.Row {
	var out []row.Row
	for _, r := range l {
		if slices.Contains(keys, r.Key) {
			out = append(out, r)
		}
	}
	return out
}

// modelCheck asks each mark whether it may be, all of it.
func modelCheck(l []digest.Mark) api.Errno {
	if len(l) > 64 {
		return api.ErrLong
	}
	for i, m := range l {
		switch {
		case !row.Name(m.Key):
			return api.ErrName
		case i > 0 && strings.Compare(l[i-1].Key, m.Key) >= 0:
			return api.ErrTwice
		case stamp.Check(m.Stamp) != api.OK:
			return stamp.Check(m.Stamp)
		}
	}
	return api.OK
}

func modelOf(l []row.Row) []digest.Mark {
	var out []digest.Mark
	for _, r := range l {
		out = append(out, digest.Mark{r.Key, r.Stamp})
	}
	return out
}

// holds wants of all calls what the second writing has.
func holds(t *testing.T, l []row.Row, other []digest.Mark) {
	t.Helper()
	if got, want := toldMarks(digest.Of(l)), toldMarks(modelOf(l)); got != want {
		t.Fatalf("P1401: Of(%s): %s, not %s", told(l), got, want)
	}
	if got, want := told(digest.Send(l, other)), told(modelSend(l, other)); got != want {
		t.Fatalf("P1401: Send(%s, %s): %s, not %s", told(l), toldMarks(other), got, want)
	}
	if got, want := toldKeys(digest.Want(l, other)), toldKeys(modelWant(l, other)); got != want {
		t.Fatalf("P1401: Want(%s, %s): %s, not %s", told(l), toldMarks(other), got, want)
	}
	picks(t, l, digest.Want(l, other))
}

func picks(t *testing.T, l []row.Row, keys []string) {
	t.Helper()
	if got, want := told(digest.Pick(l, keys)), told(modelPick(l, keys)); got != want {
		t.Fatalf("P1401: Pick(%s, %q): %s, not %s", told(l), keys, got, want)
	}
}

func checks(t *testing.T, l []digest.Mark, want api.Errno) {
	t.Helper()
	if e := digest.Check(l); e != want {
		t.Errorf("P1401: Check(%s): %v, not %v", toldMarks(l), e, want)
	}
}

// sets answers all lists of rows of those keys, each away or of one of the ticks.
func sets(keys []string, ticks int64) [][]row.Row {
	if len(keys) == 0 {
		return [][]row.Row{nil}
	}
	var out [][]row.Row
	for _, l := range sets(keys[1:], ticks) {
		out = append(out, l)
		for tick := int64(1); tick <= ticks; tick++ {
			out = append(out, append([]row.Row{made(keys[0], tick)}, l...))
		}
	}
	return out
}

// TestP1401Short holds all pairs of short lists.
func TestP1401Short(t *testing.T) {
	all := sets([]string{"a", "b", "bb", "c"}, 2)
	for _, l := range all {
		for _, other := range all {
			holds(t, l, digest.Of(other))
		}
	}
}

func TestP1401Ordinary(t *testing.T) {
	l := []row.Row{made("a", 5), made("b", 5), made("c", 5), made("e", 5)}
	other := []digest.Mark{mark("a", 4), mark("b", 5), mark("c", 6), mark("d", 1), mark("f", 1)}
	if s, want := told(digest.Send(l, other)), told([]row.Row{made("a", 5), made("e", 5)}); s != want {
		t.Errorf("P1401: Send: %s, not %s", s, want)
	}
	if s := toldKeys(digest.Want(l, other)); s != `["c" "d" "f"]` {
		t.Errorf("P1401: Want: %s", s)
	}
	if s, want := told(digest.Pick(l, []string{"b", "d", "e"})), told([]row.Row{made("b", 5), made("e", 5)}); s != want {
		t.Errorf("P1401: Pick: %s, not %s", s, want)
	}
	if s, want := toldMarks(digest.Of(l)), toldMarks([]digest.Mark{mark("a", 5), mark("b", 5), mark("c", 5), mark("e", 5)}); s != want {
		t.Errorf("P1401: Of: %s, not %s", s, want)
	}
}

// TestP1401Stamps compares stamps that differ in one field each.
func TestP1401Stamps(t *testing.T) {
	rising := []stamp.Stamp{
		{Origin: "/a"}, {Origin: "/b"}, {Seq: 1, Origin: "/a"}, {Inc: 1, Origin: "/a"}, {Inc: 1, Seq: 1, Origin: "/a"},
		{Tick: 1, Origin: "/a"}, {Tick: 1, Inc: 1, Seq: 1, Origin: "/b"}, {Tick: api.MaxTick, Inc: api.MaxTick, Seq: api.MaxTick, Origin: "/z"},
	}
	for i, a := range rising {
		for j, b := range rising {
			l, other := []row.Row{{Key: "k", Stamp: a}}, []digest.Mark{{"k", b}}
			if n := len(digest.Send(l, other)); (n == 1) != (i > j) {
				t.Errorf("P1401: Send of %+v to %+v: %d", a, b, n)
			}
			if n := len(digest.Want(l, other)); (n == 1) != (j > i) {
				t.Errorf("P1401: Want of %+v from %+v: %d", a, b, n)
			}
		}
	}
}

// TestP1401NoStamp: what the other one has not is lacked, however elder it is.
func TestP1401NoStamp(t *testing.T) {
	for _, s := range []stamp.Stamp{{}, {Tick: -1}} {
		holds(t, []row.Row{{Key: "b", Stamp: s}}, []digest.Mark{{"a", s}, {"c", s}})
		holds(t, []row.Row{{Key: "b", Stamp: s}}, []digest.Mark{{"b", s}})
	}
}

// TestP1401Long holds long lists that somebody made up.
func TestP1401Long(t *testing.T) {
	draw := rand.New(rand.NewSource(14))
	some := func() []row.Row {
		var l []row.Row
		share := draw.Intn(11)
		for i := range 5 * draw.Intn(200) {
			if draw.Intn(10) < share {
				l = append(l, made(fmt.Sprintf("k%04d", i), draw.Int63n(3)))
			}
		}
		return l
	}
	for range 60 {
		holds(t, some(), digest.Of(some()))
	}
}

// TestP1401Pick picks by all short lists of keys, in each order and more than once.
func TestP1401Pick(t *testing.T) {
	keys := []string{"a", "b", "bb", "c", ""}
	lists := [][]string{nil}
	for from := 0; len(lists[from]) < 4; from++ {
		for _, key := range keys {
			lists = append(lists, append(slices.Clone(lists[from]), key))
		}
	}
	for _, l := range sets(keys[:4], 1) {
		for _, keys := range lists {
			picks(t, l, keys)
		}
	}
	l := []row.Row{made("a", 1), made("b", 1), made("c", 1)}
	if s, want := told(digest.Pick(l, []string{"c", "c", "\xff", "A", "a", "c"})), told([]row.Row{made("a", 1), made("c", 1)}); s != want {
		t.Errorf("P1401: Pick: %s, not %s", s, want)
	}
}

// TestP1401Agree has two tables ask each other for what they lack, once: then
// they have the same (T1), and of each Key what was newer (T2).
func TestP1401Agree(t *testing.T) {
	draw := rand.New(rand.NewSource(41))
	for range 200 {
		a, b := empty(t), empty(t)
		newest := empty(t)
		for range draw.Intn(40) {
			r := made(fmt.Sprint("k", draw.Intn(20)), draw.Int63n(9))
			[]*table.Table{a, b}[draw.Intn(2)].Put(r)
			newest.Put(r)
		}
		mine, yours := digest.Send(a.Rows(), digest.Of(b.Rows())), digest.Pick(b.Rows(), digest.Want(a.Rows(), digest.Of(b.Rows())))
		for _, r := range yours {
			if e := a.Put(r); e != api.OK {
				t.Fatalf("P1401: wanted in vain: %v: %+v", e, r)
			}
		}
		for _, r := range mine {
			if e := b.Put(r); e != api.OK {
				t.Fatalf("P1401: sent in vain: %v: %+v", e, r)
			}
		}
		if want := told(newest.Rows()); told(a.Rows()) != want || told(b.Rows()) != want {
			t.Fatalf("P1401: %s and %s, not %s", told(a.Rows()), told(b.Rows()), want)
		}
		holds(t, a.Rows(), digest.Of(b.Rows()))
		if len(digest.Send(a.Rows(), digest.Of(b.Rows()))) != 0 || len(digest.Want(a.Rows(), digest.Of(b.Rows()))) != 0 {
			t.Fatalf("P1401: something is lacking of the same")
		}
	}
}

func empty(t *testing.T) *table.Table {
	t.Helper()
	x, e := table.New(api.MaxRows)
	if e != api.OK {
		t.Fatal(e)
	}
	return x
}

// many answers marks that may be.
func many(n int) []digest.Mark {
	var l []digest.Mark
	for i := range n {
		l = append(l, mark(fmt.Sprintf("k%03d", i), int64(i)))
	}
	return l
}

// TestP1401Check holds all lists of up to three marks out of what may and may not be.
func TestP1401Check(t *testing.T) {
	var marks []digest.Mark
	for _, key := range []string{"", "A", "abcdefghi", "a", "ab", "b"} {
		for _, s := range []stamp.Stamp{at(1), {Tick: 1}, {Tick: -1, Origin: "/a"}} {
			marks = append(marks, digest.Mark{key, s})
		}
	}
	checks(t, nil, api.OK)
	checks(t, []digest.Mark{}, api.OK)
	for _, a := range marks {
		checks(t, []digest.Mark{a}, modelCheck([]digest.Mark{a}))
		for _, b := range marks {
			checks(t, []digest.Mark{a, b}, modelCheck([]digest.Mark{a, b}))
			for _, c := range marks {
				checks(t, []digest.Mark{a, b, c}, modelCheck([]digest.Mark{a, b, c}))
			}
		}
	}
}

// TestP1401Refused bends one mark of a long list, each place of it.
func TestP1401Refused(t *testing.T) {
	wrong := []struct {
		bend func(*digest.Mark)
		want api.Errno
	}{
		{func(m *digest.Mark) { m.Key = "" }, api.ErrName},
		{func(m *digest.Mark) { m.Key = strings.ToUpper(m.Key) }, api.ErrName},
		{func(m *digest.Mark) { m.Key += "00000" }, api.ErrName},
		{func(m *digest.Mark) { m.Key += "\n" }, api.ErrName},
		{func(m *digest.Mark) { m.Stamp.Tick = -1 }, api.ErrArg},
		{func(m *digest.Mark) { m.Stamp.Tick = api.MaxTick + 1 }, api.ErrArg},
		{func(m *digest.Mark) { m.Stamp.Inc = -1 }, api.ErrArg},
		{func(m *digest.Mark) { m.Stamp.Inc = math.MaxInt64 }, api.ErrArg},
		{func(m *digest.Mark) { m.Stamp.Seq = math.MinInt64 }, api.ErrArg},
		{func(m *digest.Mark) { m.Stamp.Seq = api.MaxTick + 1 }, api.ErrArg},
		{func(m *digest.Mark) { m.Stamp.Origin = "" }, api.ErrName},
		{func(m *digest.Mark) { m.Stamp.Origin = "/" }, api.ErrName},
		{func(m *digest.Mark) { m.Stamp.Origin = "/a/b/c/d/e" }, api.ErrName},
	}
	for n := range api.MaxRows + 6 {
		for i := range n {
			for _, w := range wrong {
				l := many(n)
				w.bend(&l[i])
				want := w.want
				if n > api.MaxRows {
					want = api.ErrLong
				}
				checks(t, l, want)
			}
		}
	}
}

// TestP1401Twice puts the Key of another one into each place.
func TestP1401Twice(t *testing.T) {
	for i := range api.MaxRows {
		for j := range api.MaxRows {
			l := many(api.MaxRows)
			l[i].Key = l[j].Key
			want := api.ErrTwice
			if i == j {
				want = api.OK
			}
			checks(t, l, want)
		}
	}
}

func TestP1401Most(t *testing.T) {
	for n := range api.MaxRows + 3 {
		want := api.OK
		if n > api.MaxRows {
			want = api.ErrLong
		}
		checks(t, many(n), want)
	}
	checks(t, make([]digest.Mark, api.MaxRows), api.ErrName)
	checks(t, make([]digest.Mark, api.MaxRows+1), api.ErrLong)
	most := stamp.Stamp{Tick: api.MaxTick, Inc: api.MaxTick, Seq: api.MaxTick, Origin: strings.Repeat("/abcdefgh", api.MaxDepth)}
	checks(t, []digest.Mark{{"a", stamp.Stamp{Origin: "/a"}}, {strings.Repeat("z", api.MaxName), most}}, api.OK)
}

// TestP1401Order: of one mark the errors in their order, of several the first one's (P6).
func TestP1401Order(t *testing.T) {
	bad := stamp.Stamp{Tick: -1}
	checks(t, []digest.Mark{mark("b", 1), {"", bad}}, api.ErrName)
	checks(t, []digest.Mark{mark("b", 1), {"b", bad}}, api.ErrTwice)
	checks(t, []digest.Mark{mark("b", 1), {"a", bad}}, api.ErrTwice)
	checks(t, []digest.Mark{mark("b", 1), {"c", bad}}, api.ErrArg)
	checks(t, []digest.Mark{{"b", bad}, {"a", bad}, {"", bad}}, api.ErrArg)
	checks(t, []digest.Mark{mark("b", 1), mark("a", 1), {"", bad}}, api.ErrTwice)
	checks(t, []digest.Mark{{"b", stamp.Stamp{}}, mark("a", 1)}, api.ErrName)
}
