package table_test

import (
	"fmt"
	"math"
	"strings"
	"testing"
	"unsafe"

	"canton/api"
	"canton/row"
	"canton/stamp"
	"canton/table"
	"canton/value"
)

// TestP1AnyData hands in whatever may be handed in, to a table that no New made, too.
func TestP1AnyData(t *testing.T) {
	long := strings.Repeat("a", 1<<20)
	texts := []string{"", "a", "A", "\x00", "\xff\xfe", "/", "é", long}
	numbers := []int64{0, 1, -1, api.MaxTick, api.MaxTick + 1, math.MaxInt64, math.MinInt64}
	attrs := [][]row.Attr{nil, {}, {{}}, {{Name: "a"}, {Name: "a"}}, {{Name: "a", Value: list(3, 2)}}, {{Name: "a", Value: text(long)}}, {{Name: "a", Value: list(make([]int64, 1<<20)...)}}, make([]row.Attr, 1<<16)}
	for _, x := range []*table.Table{empty(t, 1), empty(t, 3), of(t, 1, made("a", 3)), {}} {
		for i, key := range texts {
			for j, n := range numbers {
				for k, l := range attrs {
					x.Put(row.Row{Key: key, Stamp: stamp.Stamp{Tick: n, Inc: numbers[(i+k)%7], Seq: numbers[(i+j+k)%7], Origin: texts[(i+j)%8]}, Attrs: l})
				}
				for _, age := range numbers {
					x.Sweep(n, age, key)
				}
			}
			x.Get(key)
			x.Drop(key)
		}
		x.Rows()
		x.Attrs()
		x.Twin().Len()
	}
}

func TestP1NoNew(t *testing.T) {
	x := &table.Table{}
	puts(t, x, made("a", 1), api.ErrFull)
	puts(t, x.Twin(), made("a", 1), api.ErrFull)
	has(t, x, "")
}

// fill writes over rows, their spare room too.
func fill(l []row.Row) {
	l = l[:cap(l)]
	for i := range l {
		fillAttrs(l[i].Attrs)
		l[i] = row.Row{Key: "filled", Attrs: []row.Attr{{Name: "filled"}}}
	}
}

func fillAttrs(l []row.Attr) {
	l = l[:cap(l)]
	for i := range l {
		v := l[i].Value.L
		v = v[:cap(v)]
		for j := range v {
			v[j] = 99
		}
		l[i] = row.Attr{Name: "filled", Value: list(99)}
	}
}

func fillAll(l [][]row.Attr) {
	l = l[:cap(l)]
	for i := range l {
		fillAttrs(l[i])
		l[i] = []row.Attr{{Name: "filled"}}
	}
}

// TestP2HandedIn holds what is handed in against what it was, and writes over it then.
func TestP2HandedIn(t *testing.T) {
	x := empty(t, 2)
	for _, tick := range []int64{3, 3, 2, 5} {
		r := made("a", tick)
		whole := func() string {
			s := told([]row.Row{r}) + toldAttrs(r.Attrs[:cap(r.Attrs)])
			return s + fmt.Sprint(r.Attrs[0].Value.L[:cap(r.Attrs[0].Value.L)])
		}
		before := whole()
		x.Put(r)
		if after := whole(); after != before {
			t.Errorf("P2: Put left\n%sof\n%s", after, before)
		}
		fill([]row.Row{r})
	}
	holds(t, x, &model{most: 2, rows: []row.Row{made("a", 5)}})
}

// TestP2Answers writes over all that is answered.
func TestP2Answers(t *testing.T) {
	x := of(t, 4, made("a", 1), made("b", 2), made("c", 3))
	w := x.Twin()
	want := &model{most: 4, rows: []row.Row{made("a", 1), made("b", 2), made("c", 3)}}
	for _, y := range []*table.Table{x, w} {
		r, _ := y.Get("b")
		fill([]row.Row{r})
		holds(t, x, want)
		holds(t, w, want)
		fill(y.Rows())
		holds(t, x, want)
		holds(t, w, want)
		fillAll(y.Attrs())
		holds(t, x, want)
		holds(t, w, want)
	}
	gone := w.Sweep(9, 7, "")
	for i := range gone[:cap(gone)] {
		gone[:cap(gone)][i] = "filled"
	}
	has(t, w, "b2 c3 ")
	holds(t, x, want)
}

// TestP2Apart writes over one list of an answer and looks at the others.
func TestP2Apart(t *testing.T) {
	one := made("a", 1)
	two := row.Row{Key: "b", Stamp: at(1), Attrs: one.Attrs}
	x := of(t, 4, one, two)
	l := x.Rows()
	fillAttrs(l[0].Attrs)
	if toldAttrs(l[1].Attrs) != toldAttrs(made("a", 1).Attrs) {
		t.Errorf("P2: Rows: %s", told(l))
	}
	a := x.Attrs()
	fillAttrs(a[0])
	if toldAttrs(a[1]) != toldAttrs(made("a", 1).Attrs) {
		t.Errorf("P2: Attrs: %v", a)
	}
	shared := []int64{1, 2}
	x = of(t, 1, row.Row{Key: "a", Stamp: at(1), Attrs: []row.Attr{{Name: "a", Value: list(shared...)}, {Name: "b", Value: list(shared...)}}})
	r, _ := x.Get("a")
	fillAttrs(r.Attrs[:1:1])
	if value.Text(r.Attrs[1].Value) != "[1 2]" {
		t.Errorf("P2: Get: %+v", r)
	}
}

// TestP2Texts looks whether a kept text is a piece of what was handed in.
func TestP2Texts(t *testing.T) {
	whole := strings.Repeat("a", 1<<10)
	r := row.Row{Key: whole[:3], Stamp: stamp.Stamp{Origin: ("/" + whole)[:4]}, Attrs: []row.Attr{{Name: whole[:5], Value: text(whole[:60])}}}
	x := of(t, 1, r)
	got, _ := x.Get("aaa")
	for i, two := range [][2]string{{r.Key, got.Key}, {r.Stamp.Origin, got.Stamp.Origin}, {r.Attrs[0].Name, got.Attrs[0].Name}, {r.Attrs[0].Value.S, got.Attrs[0].Value.S}} {
		if two[0] != two[1] || unsafe.StringData(two[0]) == unsafe.StringData(two[1]) {
			t.Errorf("P2: text %d: %q, %q", i, two[0], two[1])
		}
	}
}

func TestP3SameCallsSameAnswers(t *testing.T) {
	run := func() string {
		x := empty(t, 3)
		s := ""
		for _, r := range []row.Row{made("c", 3), made("a", 3), made("b", 3), made("d", 4), made("e", 4), made("d", 1)} {
			s += fmt.Sprintln(x.Put(r), told(x.Rows()), x.Attrs())
		}
		return s + fmt.Sprintln(x.Sweep(5, 1, "b"), told(x.Rows()), told(x.Twin().Rows()))
	}
	want := run()
	for range 100 {
		if s := run(); s != want {
			t.Fatalf("P3: %s, not %s", s, want)
		}
	}
}

// TestP4NamedFields puts values that have more than their Kind names.
func TestP4NamedFields(t *testing.T) {
	both := func(kind int) value.Value { return value.Value{Kind: kind, I: 7, S: "s", L: []int64{1, 2}} }
	x := of(t, 1, row.Row{Key: "a", Stamp: at(1), Attrs: []row.Attr{{Name: "i", Value: both(api.Int)}, {Name: "l", Value: both(api.List)}, {Name: "t", Value: both(api.Text)}}})
	want := toldAttrs([]row.Attr{{Name: "i", Value: num(7)}, {Name: "l", Value: list(1, 2)}, {Name: "t", Value: text("s")}})
	r, _ := x.Get("a")
	for _, l := range [][]row.Attr{r.Attrs, x.Rows()[0].Attrs, x.Attrs()[0], x.Twin().Attrs()[0]} {
		if s := toldAttrs(l); s != want {
			t.Errorf("P4: %s, not %s", s, want)
		}
	}
}
