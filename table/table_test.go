package table_test

import (
	"fmt"
	"math"
	"math/rand"
	"slices"
	"strings"
	"testing"

	"canton/api"
	"canton/row"
	"canton/stamp"
	"canton/table"
	"canton/value"
)

// model is a second writing of a table: its rows stand as they came.
type model struct {
	most int
	rows []row.Row
}

func (m *model) at(key string) int {
	return slices.IndexFunc(m.rows, func(r row.Row) bool { return r.Key == key })
}

func (m *model) put(r row.Row) api.Errno {
	if e := row.Check(r); e != api.OK {
		return e
	}
	at := m.at(r.Key)
	elder := func(o row.Row) bool { return stamp.Compare(o.Stamp, r.Stamp) < 0 }
	switch {
	case at >= 0 && !elder(m.rows[at]):
		return api.ErrOld
	case at < 0 && len(m.rows) == m.most && !slices.ContainsFunc(m.rows, elder):
		return api.ErrFull
	case at < 0 && len(m.rows) == m.most:
		first := slices.MinFunc(m.rows, func(a, b row.Row) int {
			if c := stamp.Compare(a.Stamp, b.Stamp); c != 0 {
				return c
			}
			return strings.Compare(a.Key, b.Key)
		})
		m.drop(first.Key)
	case at >= 0:
		m.drop(r.Key)
	}
	m.rows = append(m.rows, r)
	return api.OK
}

func (m *model) drop(key string) bool {
	n := len(m.rows)
	m.rows = slices.DeleteFunc(m.rows, func(r row.Row) bool { return r.Key == key })
	return len(m.rows) < n
}

func (m *model) sweep(now, age int64, keep string) []string {
	var left []row.Row
	var gone []string
	for _, r := range m.sorted() {
		if now < 0 || age < 0 || r.Key == keep || r.Stamp.Tick >= now-age {
			left = append(left, r)
		} else {
			gone = append(gone, r.Key)
		}
	}
	m.rows = left
	return gone
}

func (m *model) sorted() []row.Row {
	return slices.SortedFunc(slices.Values(m.rows), func(a, b row.Row) int { return strings.Compare(a.Key, b.Key) })
}

func (m *model) twin() *model { return &model{most: m.most, rows: slices.Clone(m.rows)} }

// holds wants of x what the second writing has.
func holds(t *testing.T, x *table.Table, m *model) {
	t.Helper()
	want := m.sorted()
	if got := x.Rows(); told(got) != told(want) {
		t.Fatalf("P1301: Rows: %s, not %s", told(got), told(want))
	}
	if x.Len() != len(want) {
		t.Fatalf("P1301: Len: %d, not %d", x.Len(), len(want))
	}
	l := x.Attrs()
	if len(l) != len(want) {
		t.Fatalf("P1301: Attrs: %v of %s", l, told(want))
	}
	for i, r := range want {
		if toldAttrs(l[i]) != toldAttrs(r.Attrs) {
			t.Fatalf("P1301: Attrs: %d: %s, not %s", i, toldAttrs(l[i]), toldAttrs(r.Attrs))
		}
		if got, ok := x.Get(r.Key); !ok || told([]row.Row{got}) != told([]row.Row{r}) {
			t.Fatalf("P1301: Get(%q): %+v, %v, not %+v", r.Key, got, ok, r)
		}
	}
}

// told is all that rows have, in Go's own words, but that no list is an empty one.
func told(l []row.Row) string {
	s := ""
	for _, r := range l {
		s += fmt.Sprintf("%q %+v %s\n", r.Key, r.Stamp, toldAttrs(r.Attrs))
	}
	return s
}

func toldAttrs(l []row.Attr) string {
	s := ""
	for _, a := range l {
		s += fmt.Sprintf("%q %d %d %q %v;", a.Name, a.Value.Kind, a.Value.I, a.Value.S, a.Value.L)
	}
	return s
}

// keys tells the Keys and Ticks of x.
func keys(x *table.Table) string {
	s := ""
	for _, r := range x.Rows() {
		s += fmt.Sprint(r.Key, r.Stamp.Tick, " ")
	}
	return s
}

func num(n int64) value.Value { return value.Value{Kind: api.Int, I: n} }

func text(s string) value.Value { return value.Value{Kind: api.Text, S: s} }

func list(l ...int64) value.Value { return value.Value{Kind: api.List, L: l} }

func at(tick int64) stamp.Stamp { return stamp.Stamp{Tick: tick, Inc: 1, Seq: 1, Origin: "/z/k"} }

// made answers a row of each Kind of value, its lists with room to spare.
func made(key string, tick int64) row.Row {
	l := append(make([]row.Attr, 0, 8), row.Attr{Name: "l", Value: list(append(make([]int64, 0, 8), tick, tick+1)...)})
	l = append(l, row.Attr{Name: "n", Value: num(tick)}, row.Attr{Name: "t", Value: text(key)})
	return row.Row{Key: key, Stamp: at(tick), Attrs: l}
}

func empty(t *testing.T, most int) *table.Table {
	t.Helper()
	x, e := table.New(most)
	if x == nil || e != api.OK {
		t.Fatalf("P1301: New(%d): %v", most, e)
	}
	return x
}

// of answers a table with room for most that has these rows.
func of(t *testing.T, most int, l ...row.Row) *table.Table {
	t.Helper()
	x := empty(t, most)
	for _, r := range l {
		puts(t, x, r, api.OK)
	}
	return x
}

func puts(t *testing.T, x *table.Table, r row.Row, want api.Errno) {
	t.Helper()
	before := told(x.Rows())
	if e := x.Put(r); e != want {
		t.Errorf("P1301: Put(%+v): %v, not %v, to\n%s", r, e, want, before)
	}
	if after := told(x.Rows()); want != api.OK && after != before {
		t.Errorf("P5: Put(%+v): %v, and there is\n%safter\n%s", r, want, after, before)
	}
}

func has(t *testing.T, x *table.Table, want string) {
	t.Helper()
	if s := keys(x); s != want || x.Len() != strings.Count(want, " ") {
		t.Errorf("P1301: there is %s(%d), not %s", s, x.Len(), want)
	}
}

func TestP1301New(t *testing.T) {
	for most := -70; most <= 140; most++ {
		x, e := table.New(most)
		if may := most >= 1 && most <= api.MaxRows; may != (x != nil) || may != (e == api.OK) || !may && e != api.ErrArg {
			t.Errorf("P1301: New(%d): %v, %v", most, x, e)
		}
	}
	for _, most := range []int{math.MinInt, math.MaxInt, 1 << 32, 1<<32 + 1, -1 << 32, api.MaxTick} {
		if x, e := table.New(most); x != nil || e != api.ErrArg {
			t.Errorf("P1301: New(%d): %v, %v", most, x, e)
		}
	}
	x := empty(t, 1)
	if r, ok := x.Get(""); ok || told([]row.Row{r}) != told(make([]row.Row, 1)) {
		t.Errorf("P4: Get of nothing: %+v, %v", r, ok)
	}
	if x.Len() != 0 || len(x.Rows()) != 0 || len(x.Attrs()) != 0 || x.Drop("a") || len(x.Sweep(9, 0, "")) != 0 || x.Twin().Len() != 0 {
		t.Errorf("P1301: something is in a new table")
	}
}

// TestP1301Room fills tables of each size.
func TestP1301Room(t *testing.T) {
	for most := 1; most <= api.MaxRows; most++ {
		x := empty(t, most)
		for i := range most {
			puts(t, x, made(fmt.Sprint("k", i), int64(i)+5), api.OK)
		}
		puts(t, x, made("new", 4), api.ErrFull)
		puts(t, x, made("new", 5), api.ErrFull)
		if x.Len() != most {
			t.Fatalf("P1301: New(%d): %d rows", most, x.Len())
		}
		puts(t, x, made("new", 6), api.OK)
		if _, there := x.Get("k0"); there || x.Len() != most {
			t.Errorf("P1301: New(%d): k0 has not gone: %s", most, keys(x))
		}
	}
}

func TestP1301Put(t *testing.T) {
	x := of(t, 3, made("b", 5))
	puts(t, x, made("b", 5), api.ErrOld)
	puts(t, x, made("b", 4), api.ErrOld)
	puts(t, x, made("b", 6), api.OK)
	has(t, x, "b6 ")
	puts(t, x, made("c", 2), api.OK)
	puts(t, x, made("a", 2), api.OK)
	has(t, x, "a2 b6 c2 ")
	// Of one that is there and elder than all it is ErrOld, not ErrFull.
	puts(t, x, made("b", 1), api.ErrOld)
	puts(t, x, made("d", 1), api.ErrFull)
	puts(t, x, made("d", 2), api.ErrFull)
	// A Key that is there takes no room, and nobody's but its own.
	puts(t, x, made("c", 3), api.OK)
	has(t, x, "a2 b6 c3 ")
	puts(t, x, made("b", 9), api.OK)
	has(t, x, "a2 b9 c3 ")
	// Newer than the eldest is enough.
	puts(t, x, made("d", 3), api.OK)
	has(t, x, "b9 c3 d3 ")
	// Of several that are eldest the first by Key goes, whichever came first.
	puts(t, x, made("e", 4), api.OK)
	has(t, x, "b9 d3 e4 ")
	puts(t, x, made("a", 10), api.OK)
	has(t, x, "a10 b9 e4 ")
	// What went may come back, elder than it was.
	x.Drop("b")
	puts(t, x, made("b", 1), api.OK)
	has(t, x, "a10 b1 e4 ")
}

// TestP1301Stamps puts rows whose Stamps differ in one field each.
func TestP1301Stamps(t *testing.T) {
	with := func(key string, s stamp.Stamp) row.Row { return row.Row{Key: key, Stamp: s} }
	rising := []stamp.Stamp{
		{Origin: "/a"}, {Origin: "/b"}, {Seq: 1, Origin: "/a"}, {Inc: 1, Origin: "/a"}, {Inc: 1, Seq: 1, Origin: "/a"},
		{Tick: 1, Origin: "/a"}, {Tick: 1, Inc: 1, Seq: 1, Origin: "/b"}, {Tick: api.MaxTick, Inc: api.MaxTick, Seq: api.MaxTick, Origin: "/z"},
	}
	for i, a := range rising {
		for j, b := range rising {
			want := api.ErrOld
			if j > i {
				want = api.OK
			}
			puts(t, of(t, 2, with("k", a)), with("k", b), want)
			if want == api.ErrOld {
				want = api.ErrFull
			}
			puts(t, of(t, 1, with("k", a)), with("j", b), want)
			puts(t, of(t, 2, with("k", a), with("m", rising[len(rising)-1])), with("j", b), want)
		}
	}
}

func TestP1301Refused(t *testing.T) {
	full := func() *table.Table { return of(t, 2, made("a", 5), made("b", 6)) }
	bent := func(key string, tick int64, bend func(*row.Row)) row.Row {
		r := made(key, tick)
		bend(&r)
		return r
	}
	wrong := []struct {
		bend func(*row.Row)
		want api.Errno
	}{
		{func(r *row.Row) { r.Key = "" }, api.ErrName},
		{func(r *row.Row) { r.Key += "A" }, api.ErrName},
		{func(r *row.Row) { r.Key = strings.Repeat("a", 9) }, api.ErrName},
		{func(r *row.Row) { r.Stamp.Tick = -1 }, api.ErrArg},
		{func(r *row.Row) { r.Stamp.Tick = api.MaxTick + 1 }, api.ErrArg},
		{func(r *row.Row) { r.Stamp.Inc = -1 }, api.ErrArg},
		{func(r *row.Row) { r.Stamp.Seq = math.MaxInt64 }, api.ErrArg},
		{func(r *row.Row) { r.Stamp.Origin = "" }, api.ErrName},
		{func(r *row.Row) { r.Stamp.Origin = "/z/" }, api.ErrName},
		{func(r *row.Row) { r.Attrs = make([]row.Attr, api.MaxAttrs+1) }, api.ErrLong},
		{func(r *row.Row) { r.Attrs[1].Name = "" }, api.ErrName},
		{func(r *row.Row) { r.Attrs[1].Name = "l" }, api.ErrTwice},
		{func(r *row.Row) { r.Attrs[1].Name = "a" }, api.ErrTwice},
		{func(r *row.Row) { r.Attrs[1].Value.Kind = 0 }, api.ErrKind},
		{func(r *row.Row) { r.Attrs[0].Value.L = []int64{2, 1} }, api.ErrForm},
		{func(r *row.Row) { r.Attrs[0].Value.L = make([]int64, api.MaxList+1) }, api.ErrLong},
		{func(r *row.Row) { r.Attrs[2].Value.S = strings.Repeat("a", api.MaxText+1) }, api.ErrLong},
		{func(r *row.Row) { r.Attrs[2].Value.S = "\n" }, api.ErrForm},
	}
	for _, w := range wrong {
		// P6: it counts ahead of ErrOld and ErrFull, and where neither is.
		for _, r := range []row.Row{bent("a", 4, w.bend), bent("a", 9, w.bend), bent("c", 4, w.bend), bent("c", 9, w.bend)} {
			puts(t, full(), r, w.want)
			puts(t, empty(t, 3), r, w.want)
		}
	}
	puts(t, full(), row.Row{}, api.ErrName)
	// What may be at its most.
	most := row.Row{Key: strings.Repeat("z", api.MaxName), Stamp: stamp.Stamp{Tick: api.MaxTick, Inc: api.MaxTick, Seq: api.MaxTick, Origin: strings.Repeat("/abcdefgh", api.MaxDepth)}}
	for i := range api.MaxAttrs {
		most.Attrs = append(most.Attrs, row.Attr{Name: fmt.Sprintf("a%02d", i), Value: text(strings.Repeat("~", api.MaxText))})
	}
	x := full()
	puts(t, x, most, api.OK)
	holds(t, x, &model{most: 2, rows: []row.Row{made("b", 6), most}})
	puts(t, empty(t, 1), row.Row{Key: "a", Stamp: stamp.Stamp{Origin: "/a"}}, api.OK)
}

func TestP1301Get(t *testing.T) {
	x := of(t, 9, made("b", 2), made("d", 4), made("bb", 3))
	for _, key := range []string{"", "a", "ba", "bbb", "c", "e", "B", "b ", "\x00", "\xff", strings.Repeat("b", 1<<20)} {
		if r, ok := x.Get(key); ok || told([]row.Row{r}) != told(make([]row.Row, 1)) || r.Attrs != nil {
			t.Errorf("P4: Get(%.20q): %+v, %v", key, r, ok)
		}
		if x.Drop(key) {
			t.Errorf("P1301: Drop(%.20q): true", key)
		}
	}
	has(t, x, "b2 bb3 d4 ")
	for i, key := range []string{"bb", "b", "d"} {
		if !x.Drop(key) || x.Drop(key) || x.Len() != 2-i {
			t.Errorf("P1301: Drop(%q)", key)
		}
		if r, ok := x.Get(key); ok {
			t.Errorf("P1301: Get(%q) of what was dropped: %+v", key, r)
		}
	}
	has(t, x, "")
}

// TestP1301Order puts rows in each order.
func TestP1301Order(t *testing.T) {
	want := []string{"a", "a0", "aa", "b", "z"}
	draw := rand.New(rand.NewSource(13))
	for range 200 {
		x := empty(t, 9)
		for _, i := range draw.Perm(len(want)) {
			puts(t, x, made(want[i], int64(9-i)), api.OK)
		}
		has(t, x, "a9 a08 aa7 b6 z5 ")
		for i, l := range x.Attrs() {
			if v, _ := row.Get(l, "t"); v.S != want[i] || len(l) != 3 {
				t.Errorf("P1301: Attrs: %d: %v", i, l)
			}
		}
	}
}

func TestP1301Sweep(t *testing.T) {
	for _, c := range []struct {
		now, age   int64
		keep, gone string
		left       string
	}{
		{9, 3, "", "[a b]", "c6 d9 "}, {9, 2, "", "[a b c]", "d9 "}, {9, 4, "", "[a]", "b5 c6 d9 "},
		{9, 3, "a", "[b]", "a2 c6 d9 "}, {9, 3, "b", "[a]", "b5 c6 d9 "}, {9, 3, "c", "[a b]", "c6 d9 "}, {9, 3, "e", "[a b]", "c6 d9 "},
		{9, 0, "", "[a b c]", "d9 "}, {10, 0, "", "[a b c d]", ""}, {0, 0, "", "[]", "a2 b5 c6 d9 "}, {2, 0, "", "[]", "a2 b5 c6 d9 "}, {3, 0, "", "[a]", "b5 c6 d9 "},
		{9, 9, "", "[]", "a2 b5 c6 d9 "}, {1, 9, "", "[]", "a2 b5 c6 d9 "}, {100, 1, "zz", "[a b c d]", ""}, {100, 1, "A", "[a b c d]", ""},
		{-1, 3, "", "[]", "a2 b5 c6 d9 "}, {100, -1, "", "[]", "a2 b5 c6 d9 "}, {-1, -9, "", "[]", "a2 b5 c6 d9 "}, {-1, -100, "", "[]", "a2 b5 c6 d9 "},
		{math.MaxInt64, math.MinInt64, "", "[]", "a2 b5 c6 d9 "}, {math.MinInt64, math.MaxInt64, "", "[]", "a2 b5 c6 d9 "}, {math.MinInt64, math.MinInt64, "", "[]", "a2 b5 c6 d9 "}, {-2, math.MaxInt64, "", "[]", "a2 b5 c6 d9 "},
		{math.MaxInt64, 0, "d", "[a b c]", "d9 "}, {0, math.MaxInt64, "", "[]", "a2 b5 c6 d9 "}, {math.MaxInt64, math.MaxInt64, "", "[]", "a2 b5 c6 d9 "}, {math.MaxInt64, math.MaxInt64 - 3, "", "[a]", "b5 c6 d9 "},
	} {
		x := of(t, 9, made("d", 9), made("a", 2), made("c", 6), made("b", 5))
		if s := fmt.Sprint(x.Sweep(c.now, c.age, c.keep)); s != c.gone {
			t.Errorf("P1301: Sweep(%d, %d, %q): %s, not %s", c.now, c.age, c.keep, s, c.gone)
		}
		has(t, x, c.left)
		if l := x.Sweep(c.now, c.age, c.keep); len(l) != 0 {
			t.Errorf("P1301: Sweep(%d, %d, %q) anew: %v", c.now, c.age, c.keep, l)
		}
		has(t, x, c.left)
	}
	// What went has left its room.
	x := of(t, 2, made("a", 2), made("b", 9))
	x.Sweep(9, 3, "")
	puts(t, x, made("c", 1), api.OK)
	has(t, x, "b9 c1 ")
}

// TestP1301Twin holds a twin and its model apart.
func TestP1301Twin(t *testing.T) {
	x := of(t, 2, made("a", 2), made("b", 3))
	w := x.Twin()
	if w == x {
		t.Fatalf("P7: Twin: the table itself")
	}
	has(t, w, "a2 b3 ")
	puts(t, w, made("c", 1), api.ErrFull)
	puts(t, w, made("c", 4), api.OK)
	puts(t, x, made("b", 8), api.OK)
	has(t, w, "b3 c4 ")
	has(t, x, "a2 b8 ")
	w.Drop("b")
	x.Sweep(9, 1, "")
	has(t, w, "c4 ")
	has(t, x, "b8 ")
}

// TestP1301Short goes through all short lists of calls.
func TestP1301Short(t *testing.T) {
	var calls []func(*table.Table) any
	var wants []func(*model) any
	for _, key := range []string{"a", "b", "c"} {
		for tick := range int64(3) {
			r := made(key, tick)
			calls = append(calls, func(x *table.Table) any { return x.Put(r) })
			wants = append(wants, func(m *model) any { return m.put(r) })
		}
	}
	calls = append(calls, func(x *table.Table) any { return x.Drop("b") }, func(x *table.Table) any { return fmt.Sprint(x.Sweep(2, 0, "c")) })
	wants = append(wants, func(m *model) any { return m.drop("b") }, func(m *model) any { return fmt.Sprint(m.sweep(2, 0, "c")) })
	var walk func(x *table.Table, m *model, left int)
	walk = func(x *table.Table, m *model, left int) {
		if left == 0 {
			return
		}
		for i := range calls {
			y, n := x.Twin(), m.twin()
			if got, want := calls[i](y), wants[i](n); got != want {
				t.Fatalf("P1301: call %d: %v, not %v, of\n%s", i, got, want, told(x.Rows()))
			}
			if left == 1 {
				holds(t, y, n)
			}
			walk(y, n, left-1)
		}
	}
	for most := 1; most <= 3; most++ {
		for n := 1; n <= 3; n++ {
			walk(empty(t, most), &model{most: most}, n)
		}
	}
	walk(empty(t, 2), &model{most: 2}, 4)
}

// TestP1301Long makes up long lists of calls.
func TestP1301Long(t *testing.T) {
	draw := rand.New(rand.NewSource(1301))
	for range 300 {
		most := 1 + draw.Intn(8)
		if draw.Intn(8) == 0 {
			most = 1 + draw.Intn(api.MaxRows)
		}
		x, m := empty(t, most), &model{most: most}
		for range 4 * most {
			step(t, draw, x, m)
			if draw.Intn(20) == 0 {
				y, n := x.Twin(), m.twin()
				step(t, draw, y, n)
				holds(t, y, n)
			}
		}
		holds(t, x, m)
	}
}

func step(t *testing.T, draw *rand.Rand, x *table.Table, m *model) {
	t.Helper()
	key := fmt.Sprint("k", draw.Intn(3*m.most/2+2))
	switch draw.Intn(12) {
	case 0:
		if got, want := x.Drop(key), m.drop(key); got != want {
			t.Fatalf("P1301: Drop(%q): %v, not %v", key, got, want)
		}
	case 1:
		now, age := draw.Int63n(12)-1, draw.Int63n(12)-1
		if got, want := x.Sweep(now, age, key), m.sweep(now, age, key); !slices.Equal(got, want) {
			t.Fatalf("P1301: Sweep(%d, %d, %q): %v, not %v", now, age, key, got, want)
		}
	default:
		r := anyRow(draw, key)
		if got, want := x.Put(r), m.put(r); got != want {
			t.Fatalf("P1301: Put(%+v): %v, not %v, to\n%s", r, got, want, told(m.sorted()))
		}
	}
	holds(t, x, m)
}

// anyRow answers a row that may be, but now and then one that may not.
func anyRow(draw *rand.Rand, key string) row.Row {
	r := row.Row{Key: key, Stamp: stamp.Stamp{Tick: draw.Int63n(10), Inc: draw.Int63n(2), Seq: draw.Int63n(2), Origin: "/" + string(rune('a'+draw.Intn(2)))}}
	for i := range draw.Intn(4) {
		v := []value.Value{num(draw.Int63() - draw.Int63()), text(key), list(), list(draw.Int63n(9)), list(-1, draw.Int63n(9))}[draw.Intn(5)]
		r.Attrs = append(r.Attrs, row.Attr{Name: fmt.Sprint("a", i), Value: v})
	}
	switch draw.Intn(40) {
	case 0:
		r.Key = strings.ToUpper(key)
	case 1:
		r.Stamp.Tick = -r.Stamp.Tick - 1
	case 2:
		r.Attrs = append(r.Attrs, row.Attr{Name: "a0", Value: value.Value{Kind: draw.Intn(5)}})
	}
	return r
}
