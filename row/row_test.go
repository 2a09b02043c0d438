package row_test

import (
	"fmt"
	"maps"
	"math"
	"reflect"
	"regexp"
	"slices"
	"strings"
	"testing"

	"canton/api"
	"canton/row"
	"canton/stamp"
	"canton/value"
)

func num(n int64) value.Value { return value.Value{Kind: api.Int, I: n} }

func text(s string) value.Value { return value.Value{Kind: api.Text, S: s} }

func list(l ...int64) value.Value { return value.Value{Kind: api.List, L: l} }

func attr(name string, v value.Value) row.Attr { return row.Attr{Name: name, Value: v} }

// nums answers attributes of these names, with 0, 1, .. as their values.
func nums(names ...string) []row.Attr {
	l := []row.Attr{}
	for i, name := range names {
		l = append(l, attr(name, num(int64(i))))
	}
	return l
}

// many answers n attributes a000, a001, ..
func many(n int) []row.Attr {
	l := []row.Attr{}
	for i := range n {
		l = append(l, attr(fmt.Sprintf("a%03d", i), num(int64(i))))
	}
	return l
}

func made(l ...row.Attr) row.Row {
	return row.Row{Key: "k", Stamp: stamp.Stamp{Tick: 1, Inc: 2, Seq: 3, Origin: "/z/k"}, Attrs: l}
}

// told is all that l has, in Go's own words, but that no list is an empty one.
func told(l []row.Attr) string {
	var out strings.Builder
	for _, a := range l {
		fmt.Fprintf(&out, "%q %d %d %q %v;", a.Name, a.Value.Kind, a.Value.I, a.Value.S, a.Value.L)
	}
	return out.String()
}

func TestP401Name(t *testing.T) {
	names(t, true, "a", "z", "a0", "z9", "k1x", "aa", "abcdefgh", "a2345678", "zzzzzzzz", "n0000000")
	names(t, false, "", "abcdefghi", "a23456789", "abcdefgh_", strings.Repeat("a", 1<<20))
	names(t, false, "A", "aB", "abcdefgH", "1", "0a", "9", "_", "_a", "a_", "a-b", "a.b", "/a", "a/b", "*", "**", "a*", " ", " a", "a ", "a b", "a\n")
	names(t, false, "é", "aé", "а", "a٣", "\xff", "a\xff", "\x00", "a\x00", "{", "a{", "`", "a`", "a:", ":", "@", "a@", "[", "a[")
}

func names(t *testing.T, want bool, all ...string) {
	t.Helper()
	for _, s := range all {
		if row.Name(s) != want {
			t.Errorf("P401: Name(%q): %v", s, !want)
		}
	}
}

// TestP401NameEachByte lays each byte at each place of a name of each length.
func TestP401NameEachByte(t *testing.T) {
	form := regexp.MustCompile(`^[a-z][a-z0-9]{0,7}$`)
	for c := range 256 {
		for n := range 10 {
			for at := range n {
				b := []byte(strings.Repeat("b", n))
				b[at] = byte(c)
				names(t, form.Match(b), string(b))
			}
		}
	}
}

// TestP401NameOfAllShortTexts holds Name against the form, written down again.
func TestP401NameOfAllShortTexts(t *testing.T) {
	form := regexp.MustCompile(`^[a-z][a-z0-9]{0,7}$`)
	all := []string{""}
	for begin := 0; len(all[begin]) < 5; begin++ {
		for _, c := range "az09A_" {
			all = append(all, all[begin]+string(c))
		}
	}
	for _, s := range all {
		names(t, form.MatchString(s), s)
		names(t, form.MatchString("abcd"+s), "abcd"+s)
	}
}

func checks(t *testing.T, want api.Errno, all ...row.Row) {
	t.Helper()
	for _, r := range all {
		if got := row.Check(r); got != want {
			t.Errorf("P401: Check(%+v): %v, not %v", r, got, want)
		}
	}
}

// bent answers the row of two attributes a and b, as f has changed it.
func bent(f func(r *row.Row)) row.Row {
	r := made(attr("a", num(1)), attr("b", list(1, 2)))
	f(&r)
	return r
}

func TestP401CheckTakes(t *testing.T) {
	checks(t, api.OK, made(), row.Row{Key: "k", Stamp: stamp.Stamp{Origin: "/o"}, Attrs: []row.Attr{}}, bent(func(*row.Row) {}))
	checks(t, api.OK, made(many(32)...), made(nums("a", "a0", "a1", "aa", "abcdefgh", "b", "z9")...))
	checks(t, api.OK, made(attr("a", list()), attr("b", text("")), attr("c", num(math.MinInt64)), attr("d", text(strings.Repeat("~", 64)))))
	// The Key need not be of the Origin: a zone's row is made by who speaks for it.
	checks(t, api.OK, bent(func(r *row.Row) { r.Key = "other" }))
}

func TestP401CheckKey(t *testing.T) {
	for _, s := range []string{"", "K", "1k", "abcdefghi", "/k", "k k", "é", "k\x00"} {
		checks(t, api.ErrName, bent(func(r *row.Row) { r.Key = s }))
		checks(t, api.ErrName, bent(func(r *row.Row) { r.Key, r.Stamp.Tick, r.Attrs = s, -1, many(33) }))
	}
	checks(t, api.ErrName, row.Row{})
}

func TestP401CheckStamp(t *testing.T) {
	for _, n := range []int64{-1, 1000000001, math.MaxInt64, math.MinInt64} {
		checks(t, api.ErrArg, bent(func(r *row.Row) { r.Stamp.Tick = n }), bent(func(r *row.Row) { r.Stamp.Inc = n }), bent(func(r *row.Row) { r.Stamp.Seq = n }))
		checks(t, api.ErrArg, bent(func(r *row.Row) { r.Stamp.Seq, r.Attrs = n, many(33) }), bent(func(r *row.Row) { r.Stamp.Seq, r.Attrs[0].Name = n, "" }))
	}
	for _, s := range []string{"", "/", "k", "/K", "/a/b/c/d/e"} {
		checks(t, api.ErrName, bent(func(r *row.Row) { r.Stamp.Origin = s }), bent(func(r *row.Row) { r.Stamp.Origin, r.Attrs = s, many(33) }))
		checks(t, api.ErrName, bent(func(r *row.Row) { r.Stamp.Origin, r.Attrs[0].Value = s, value.Value{} }))
	}
	checks(t, api.OK, bent(func(r *row.Row) {
		r.Stamp = stamp.Stamp{Tick: 1000000000, Inc: 1000000000, Seq: 1000000000, Origin: "/a/b/c/d"}
	}))
}

func TestP401CheckHowManyAttrs(t *testing.T) {
	checks(t, api.ErrLong, made(many(33)...), made(many(34)...), made(many(1000)...), made(make([]row.Attr, 33)...), made(make([]row.Attr, 1<<20)...))
	checks(t, api.ErrLong, bent(func(r *row.Row) { r.Attrs = many(33); r.Attrs[0].Name = "A" }))
	checks(t, api.ErrLong, bent(func(r *row.Row) { r.Attrs = many(33); r.Attrs[0].Value.Kind = 0 }))
	checks(t, api.ErrName, made(make([]row.Attr, 32)...))
}

func TestP401CheckAttrNames(t *testing.T) {
	for _, s := range []string{"", "B", "1", "abcdefghi", "b_", "b b", "é"} {
		checks(t, api.ErrName, bent(func(r *row.Row) { r.Attrs[0].Name = s }), bent(func(r *row.Row) { r.Attrs[1].Name = s }), made(nums("a", "b", "c", s)...))
		checks(t, api.ErrName, bent(func(r *row.Row) { r.Attrs[1] = attr(s, value.Value{}) }), made(nums("z", s)...))
	}
	checks(t, api.ErrTwice, made(nums("a", "a")...), made(nums("b", "a")...), made(nums("a", "b", "b")...), made(nums("a", "b", "a")...), made(nums("a", "c", "b", "d")...), made(nums("aa", "a")...), made(nums("a0", "a")...), made(nums("aa", "a9")...))
	checks(t, api.ErrTwice, bent(func(r *row.Row) { r.Attrs[1] = attr("a", value.Value{}) }), bent(func(r *row.Row) { r.Attrs = many(32); r.Attrs[31].Name = "a030" }))
}

func TestP401CheckValues(t *testing.T) {
	for _, c := range []struct {
		v    value.Value
		want api.Errno
	}{
		{value.Value{}, api.ErrKind}, {value.Value{Kind: 4, I: 1, S: "a"}, api.ErrKind}, {value.Value{Kind: -1}, api.ErrKind},
		{text(strings.Repeat("a", 65)), api.ErrLong}, {text(`"`), api.ErrForm}, {text("\n"), api.ErrForm}, {text("é"), api.ErrForm},
		{list(make([]int64, 17)...), api.ErrLong}, {list(2, 1), api.ErrForm}, {list(1, 1), api.ErrForm},
	} {
		checks(t, c.want, made(attr("a", c.v)), bent(func(r *row.Row) { r.Attrs[0].Value = c.v }), bent(func(r *row.Row) { r.Attrs[1].Value = c.v }))
		// The first attribute that has an error tells it (P6).
		checks(t, c.want, made(attr("a", c.v), attr("B", num(1))), made(attr("a", c.v), attr("a", num(1))), made(attr("b", c.v), attr("a", value.Value{})))
		checks(t, api.ErrName, made(attr("A", num(1)), attr("b", c.v)))
		checks(t, api.ErrTwice, made(attr("b", num(1)), attr("a", num(1)), attr("c", c.v)))
	}
	// What a Kind does not name is not looked at.
	checks(t, api.OK, made(attr("a", value.Value{Kind: api.Int, S: "\n", L: []int64{2, 1}})))
}

// some answers attributes of every Kind.
func some() []row.Attr {
	return []row.Attr{attr("b", num(7)), attr("d", text("x y")), attr("f", list(-1, 2)), attr("ff", list())}
}

func TestP401Get(t *testing.T) {
	for name, want := range map[string]string{"b": "7", "d": `"x y"`, "f": "[-1 2]", "ff": "[]"} {
		if v, ok := row.Get(some(), name); value.Text(v) != want || !ok {
			t.Errorf("P401: Get %s: %+v, %v", name, v, ok)
		}
	}
	for _, name := range []string{"", "a", "c", "e", "fe", "fff", "g", "B", "b ", "bb", "\xff", strings.Repeat("f", 1<<20)} {
		if v, ok := row.Get(some(), name); !reflect.DeepEqual(v, value.Value{}) || ok {
			t.Errorf("P401, P4: Get %q: %+v, %v", name, v, ok)
		}
	}
	for _, l := range [][]row.Attr{nil, {}, some()[:0]} {
		if v, ok := row.Get(l, "b"); !reflect.DeepEqual(v, value.Value{}) || ok {
			t.Errorf("P401, P4: Get of none: %+v, %v", v, ok)
		}
	}
	for n := range 34 {
		for i, a := range many(n) {
			if v, ok := row.Get(many(n), a.Name); v.I != int64(i) || !ok {
				t.Errorf("P401: Get %s of %d: %+v, %v", a.Name, n, v, ok)
			}
		}
	}
}

func TestP401Set(t *testing.T) {
	for _, c := range []struct {
		name string
		v    value.Value
		want []row.Attr
	}{
		{"a", num(9), append([]row.Attr{attr("a", num(9))}, some()...)},
		{"b", num(9), append([]row.Attr{attr("b", num(9))}, some()[1:]...)},
		{"b", text("9"), append([]row.Attr{attr("b", text("9"))}, some()[1:]...)},
		{"b", num(7), some()},
		{"c", list(1), slices.Insert(some(), 1, attr("c", list(1)))},
		{"f", num(-1), slices.Replace(some(), 2, 3, attr("f", num(-1)))},
		{"f", list(3), slices.Replace(some(), 2, 3, attr("f", list(3)))},
		{"f0", list(), slices.Insert(some(), 3, attr("f0", list()))},
		{"ff", text(""), append(some()[:3], attr("ff", text("")))},
		{"fff", num(0), append(some(), attr("fff", num(0)))},
		{"zzzzzzzz", text(strings.Repeat("z", 64)), append(some(), attr("zzzzzzzz", text(strings.Repeat("z", 64))))},
	} {
		if got, e := row.Set(some(), c.name, c.v); told(got) != told(c.want) || e != api.OK {
			t.Errorf("P401: Set %s %+v: %s, %v", c.name, c.v, told(got), e)
		}
	}
	for _, l := range [][]row.Attr{nil, {}, some()[:0]} {
		if got, e := row.Set(l, "a", num(1)); told(got) != told([]row.Attr{attr("a", num(1))}) || e != api.OK {
			t.Errorf("P401: Set of none: %s, %v", told(got), e)
		}
	}
}

func refuses(t *testing.T, want api.Errno, l []row.Attr, name string, v value.Value) {
	t.Helper()
	was := told(l)
	if got, e := row.Set(l, name, v); len(got) != 0 || e != want {
		t.Errorf("P401, P4: Set %q %+v: %s, %v, not %v", name, v, told(got), e, want)
	}
	if told(l) != was {
		t.Errorf("P2: behind Set %q: %s", name, told(l))
	}
}

func TestP401SetRefuses(t *testing.T) {
	for _, l := range [][]row.Attr{nil, some(), many(32), many(33)} {
		for _, name := range []string{"", "A", "1", "abcdefghi", "a b", "é"} {
			refuses(t, api.ErrName, l, name, num(1))
			refuses(t, api.ErrName, l, name, value.Value{})
		}
		for _, name := range []string{"a", "b", "a000", "z"} {
			refuses(t, api.ErrKind, l, name, value.Value{})
			refuses(t, api.ErrKind, l, name, value.Value{Kind: 4})
			refuses(t, api.ErrLong, l, name, text(strings.Repeat("\n", 65)))
			refuses(t, api.ErrForm, l, name, text("\n"))
			refuses(t, api.ErrForm, l, name, list(1, 1))
			refuses(t, api.ErrLong, l, name, list(make([]int64, 17)...))
		}
	}
}

func TestP401SetAtTheLimit(t *testing.T) {
	for _, name := range []string{"a", "a0005", "a031a", "b"} {
		if got, e := row.Set(many(31), name, num(9)); len(got) != 32 || e != api.OK {
			t.Errorf("P401: Set %s of 31: %s, %v", name, told(got), e)
		}
		for _, n := range []int{32, 33, 100} {
			refuses(t, api.ErrLong, many(n), name, num(9))
		}
	}
	// What is there already needs no room.
	for _, n := range []int{31, 32, 33, 100} {
		for i, a := range many(n) {
			want := many(n)
			want[i].Value = text("x")
			if got, e := row.Set(many(n), a.Name, text("x")); told(got) != told(want) || e != api.OK {
				t.Errorf("P401: Set %s of %d: %s, %v", a.Name, n, told(got), e)
			}
		}
	}
}

func TestP401Drop(t *testing.T) {
	for _, c := range []struct {
		name  string
		want  []row.Attr
		there bool
	}{
		{"b", some()[1:], true}, {"d", slices.Delete(some(), 1, 2), true}, {"f", slices.Delete(some(), 2, 3), true}, {"ff", some()[:3], true},
		{"a", some(), false}, {"c", some(), false}, {"fff", some(), false}, {"", some(), false}, {"B", some(), false}, {"b ", some(), false}, {"abcdefghi", some(), false},
	} {
		if got, there := row.Drop(some(), c.name); told(got) != told(c.want) || there != c.there {
			t.Errorf("P401: Drop %q: %s, %v", c.name, told(got), there)
		}
	}
	for _, l := range [][]row.Attr{nil, {}, some()[:0]} {
		if got, there := row.Drop(l, "b"); len(got) != 0 || there {
			t.Errorf("P401: Drop of none: %s, %v", told(got), there)
		}
	}
	if got, there := row.Drop(some()[:1], "b"); len(got) != 0 || !there {
		t.Errorf("P401: Drop of the last: %s, %v", told(got), there)
	}
	if got, there := row.Drop(many(40), "a039"); told(got) != told(many(39)) || !there {
		t.Errorf("P401: Drop of 40: %s, %v", told(got), there)
	}
}

// TestP401AgainstAPlainMap holds long runs of calls against a map and a sort.
func TestP401AgainstAPlainMap(t *testing.T) {
	for seed := range uint32(20) {
		l, plain := []row.Attr(nil), map[string]int64{}
		x := seed + 1
		for range 400 {
			x = x*1664525 + 1013904223
			name := fmt.Sprintf("%c%d", 'a'+x>>13%2, x>>16%25)
			_, was := plain[name]
			next, ok := l, true
			if x>>24%4 == 0 {
				delete(plain, name)
				next, ok = row.Drop(l, name)
				ok = ok == was
			} else {
				full := !was && len(plain) == api.MaxAttrs
				var e api.Errno
				if next, e = row.Set(l, name, num(int64(x))); full {
					next, ok = l, e == api.ErrLong && next == nil
				} else {
					plain[name] = int64(x)
					ok = e == api.OK
				}
			}
			if l = next; !ok || told(l) != toldPlain(plain) || row.Check(made(l...)) != api.OK {
				t.Fatalf("P401: behind %s: %s", name, told(l))
			}
			if v, ok := row.Get(l, name); v.I != plain[name] || ok != (v.Kind == api.Int) {
				t.Fatalf("P401: Get %s: %+v, %v", name, v, ok)
			}
		}
	}
}

func toldPlain(plain map[string]int64) string {
	var l []row.Attr
	for _, name := range slices.Sorted(maps.Keys(plain)) {
		l = append(l, attr(name, num(plain[name])))
	}
	return told(l)
}

// more answers l with something in each field that a Kind does not name.
func more(l []row.Attr) []row.Attr {
	for i := range l {
		v := &l[i].Value
		switch v.Kind {
		case api.Int:
			v.S, v.L = "more", []int64{5}
		case api.Text:
			v.I, v.L = 5, []int64{5}
		case api.List:
			v.I, v.S = 5, "more"
		}
	}
	return l
}

func TestP4OnlyWhatAKindNamesIsAnswered(t *testing.T) {
	for _, a := range some() {
		if v, ok := row.Get(more(some()), a.Name); !ok || told([]row.Attr{{Name: a.Name, Value: v}}) != told([]row.Attr{a}) {
			t.Errorf("P4: Get %s: %+v", a.Name, v)
		}
		w := more([]row.Attr{a})[0].Value
		if got, e := row.Set(more(some()), "a", w); e != api.OK || told(got) != told(append([]row.Attr{attr("a", a.Value)}, some()...)) {
			t.Errorf("P4: Set: %s", told(got))
		}
	}
	if got, ok := row.Drop(more(some()), "b"); !ok || told(got) != told(some()[1:]) {
		t.Errorf("P4: Drop: %s", told(got))
	}
	if got, ok := row.Drop(more(some()), "a"); ok || told(got) != told(some()) {
		t.Errorf("P4: Drop of what is not there: %s", told(got))
	}
}

func TestP401Same(t *testing.T) {
	for i, c := range []struct {
		f    func(r *row.Row)
		want bool
	}{
		{func(r *row.Row) {}, true},
		{func(r *row.Row) { r.Attrs = more(r.Attrs) }, true},
		{func(r *row.Row) { r.Attrs = append(make([]row.Attr, 0, 9), r.Attrs...) }, true},
		{func(r *row.Row) { r.Key = "l" }, false},
		{func(r *row.Row) { r.Key = "" }, false},
		{func(r *row.Row) { r.Stamp.Tick++ }, false},
		{func(r *row.Row) { r.Stamp.Inc++ }, false},
		{func(r *row.Row) { r.Stamp.Seq-- }, false},
		{func(r *row.Row) { r.Stamp.Origin = "/z" }, false},
		{func(r *row.Row) { r.Attrs = nil }, false},
		{func(r *row.Row) { r.Attrs = r.Attrs[:3] }, false},
		{func(r *row.Row) { r.Attrs = r.Attrs[1:] }, false},
		{func(r *row.Row) { r.Attrs = append(r.Attrs, attr("z", num(0))) }, false},
		{func(r *row.Row) { r.Attrs[0].Name = "a" }, false},
		{func(r *row.Row) { r.Attrs[3].Name = "fg" }, false},
		{func(r *row.Row) { r.Attrs[0].Value.I = 8 }, false},
		{func(r *row.Row) { r.Attrs[0].Value = text("7") }, false},
		{func(r *row.Row) { r.Attrs[1].Value.S = "x  y" }, false},
		{func(r *row.Row) { r.Attrs[2].Value.L[1] = 3 }, false},
		{func(r *row.Row) { r.Attrs[3].Value.L = []int64{0} }, false},
		{func(r *row.Row) { r.Attrs[3].Value.L = []int64{} }, true},
	} {
		a, b := made(some()...), made(some()...)
		c.f(&b)
		if row.Same(a, b) != c.want || row.Same(b, a) != c.want || !row.Same(b, b) {
			t.Errorf("P401: %d: Same: not %v", i, c.want)
		}
		// SameAttrs does not look at the Key and the Stamp.
		alike := c.want || told(a.Attrs) == told(b.Attrs)
		if row.SameAttrs(a.Attrs, b.Attrs) != alike || row.SameAttrs(b.Attrs, a.Attrs) != alike {
			t.Errorf("P401: %d: SameAttrs: not %v", i, alike)
		}
	}
	if !row.SameAttrs(nil, []row.Attr{}) || !row.SameAttrs([]row.Attr{}, nil) || !row.Same(row.Row{}, row.Row{Attrs: []row.Attr{}}) {
		t.Error("P2: no list is not an empty one")
	}
	if row.SameAttrs(nil, some()) || row.SameAttrs(some(), nil) {
		t.Error("P401: SameAttrs of none and some")
	}
}

func TestP401Text(t *testing.T) {
	for _, c := range []struct {
		r    row.Row
		want string
	}{
		{made(), "k 1.2.3@/z/k"},
		{made([]row.Attr{}...), "k 1.2.3@/z/k"},
		{made(attr("a", num(-5))), "k 1.2.3@/z/k a=-5"},
		{made(some()...), `k 1.2.3@/z/k b=7 d="x y" f=[-1 2] ff=[]`},
		{made(more(some())...), `k 1.2.3@/z/k b=7 d="x y" f=[-1 2] ff=[]`},
		{made(attr("abcdefgh", num(math.MinInt64)), attr("z", text(""))), `k 1.2.3@/z/k abcdefgh=-9223372036854775808 z=""`},
		// What Check refuses is told as it is.
		{row.Row{}, " 0.0.0@"},
		{row.Row{Key: "K k", Stamp: stamp.Stamp{Tick: -1, Origin: "x"}, Attrs: []row.Attr{attr("z", num(1)), {}, attr("A b", list(2, 1))}}, "K k -1.0.0@x z=1 = A b=[2 1]"},
	} {
		if got := row.Text(c.r); got != c.want {
			t.Errorf("P401: Text(%+v): %q, not %q", c.r, got, c.want)
		}
	}
}

// roomy answers some() and its lists as the fronts of longer ones.
func roomy() (l, all []row.Attr, numbers []int64) {
	numbers = []int64{-1, 2, 77, 78}
	all = append(some(), attr("y", num(77)), attr("z", num(78)))
	all[2].Value.L = numbers[:2]
	return all[:4], all, numbers
}

func TestP2WhatIsHandedInStays(t *testing.T) {
	l, all, numbers := roomy()
	was := told(all)
	mine := []int64{1, 2, 3, 4}
	hand := value.Value{Kind: api.List, L: mine[:2]}
	for _, name := range []string{"a", "b", "c", "f", "ff", "g", "", "B"} {
		row.Get(l, name)
		row.Set(l, name, hand)
		row.Set(l, name, num(1))
		row.Drop(l, name)
	}
	row.Check(made(l...))
	row.Same(made(l...), made(all...))
	row.SameAttrs(l, all)
	row.Text(made(l...))
	if told(all) != was || !slices.Equal(numbers, []int64{-1, 2, 77, 78}) || !slices.Equal(mine, []int64{1, 2, 3, 4}) {
		t.Errorf("P2: %s, %v, %v", told(all), numbers, mine)
	}
}

// spoil writes over all that l has, its spare room too.
func spoil(l []row.Attr) {
	for i := range l {
		n := l[i].Value.L
		for k := range n[:cap(n)] {
			n[:cap(n)][k] = 99
		}
	}
	for i := range l[:cap(l)] {
		l[:cap(l)][i] = attr("spoilt", num(99))
	}
}

func TestP2AnswersAreNewMemory(t *testing.T) {
	l, all, numbers := roomy()
	was, mine := told(all), []int64{1, 2, 3, 4}
	for i, f := range []func() []row.Attr{
		func() []row.Attr { x, _ := row.Set(l, "a", list(mine[:2]...)); return x },
		func() []row.Attr { x, _ := row.Set(l, "f", value.Value{Kind: api.List, L: mine[:2]}); return x },
		func() []row.Attr { x, _ := row.Set(l, "b", num(1)); return x },
		func() []row.Attr { x, _ := row.Set(l, "g", value.Value{Kind: api.List, L: mine[1:3]}); return x },
		func() []row.Attr { x, _ := row.Drop(l, "b"); return x },
		func() []row.Attr { x, _ := row.Drop(l, "ff"); return x },
		func() []row.Attr { x, _ := row.Drop(l, "nothing"); return x },
		func() []row.Attr { v, _ := row.Get(l, "f"); return []row.Attr{{Value: v}} },
	} {
		a, b := f(), f()
		is := told(b)
		spoil(a)
		if told(b) != is || told(f()) != is {
			t.Errorf("P2: %d: two answers share: %s, not %s", i, told(b), is)
		}
		if told(all) != was || !slices.Equal(numbers, []int64{-1, 2, 77, 78}) || !slices.Equal(mine, []int64{1, 2, 3, 4}) {
			t.Errorf("P2: %d: %s, %v, %v", i, told(all), numbers, mine)
		}
	}
}

func TestP2WhatWasHandedInIsNotKept(t *testing.T) {
	l, all, numbers := roomy()
	mine := []int64{1, 2, 3}
	set, _ := row.Set(l, "a", value.Value{Kind: api.List, L: mine})
	kept, _ := row.Drop(l, "nothing")
	got, _ := row.Get(l, "f")
	wasSet, wasKept := told(set), told(kept)
	spoil(all)
	copy(numbers, []int64{8, 8, 8, 8})
	copy(mine, []int64{9, 9, 9})
	if told(set) != wasSet || told(kept) != wasKept || value.Text(got) != "[-1 2]" {
		t.Errorf("P2: %s, %s, %s", told(set), told(kept), value.Text(got))
	}
}

// TestP1AnyData: whatever it is given, each call ends, and answers the same again (P3).
func TestP1AnyData(t *testing.T) {
	lists := [][]row.Attr{
		nil, {}, {{}}, {{}, {}}, nums("b", "a"), nums("a", "a", "a"), nums("z", "", "\xff", "é", "A", "a"), make([]row.Attr, 1<<16),
		{attr("a", value.Value{Kind: 4, I: 1, S: "a", L: []int64{1}}), attr("b", value.Value{Kind: math.MinInt})},
		{attr("a", text(strings.Repeat("\xff", 1<<20))), attr("a", list(make([]int64, 1<<20)...))},
		{attr(strings.Repeat("a", 1<<20), num(1))}, many(1000),
	}
	slices.Reverse(lists[len(lists)-1])
	for i, l := range lists {
		for k, other := range lists {
			if row.SameAttrs(l, other) != row.SameAttrs(other, l) || row.Same(made(l...), made(other...)) != row.SameAttrs(l, other) {
				t.Errorf("P401: Same of lists %d, %d", i, k)
			}
		}
		for _, name := range []string{"", "a", "z", "\xff", strings.Repeat("a", 1<<20)} {
			v, ok := row.Get(l, name)
			w, there := row.Get(l, name)
			set, e := row.Set(l, name, num(1))
			again, f := row.Set(l, name, num(1))
			less, was := row.Drop(l, name)
			same, is := row.Drop(l, name)
			if ok != there || e != f || was != is || !reflect.DeepEqual([]any{v, set, less}, []any{w, again, same}) {
				t.Errorf("P3: of list %d, %.9q", i, name)
			}
		}
		r := row.Row{Key: strings.Repeat("/", i<<10), Stamp: stamp.Stamp{Tick: math.MinInt64}, Attrs: l}
		if row.Check(r) != row.Check(r) || row.Text(r) != row.Text(r) {
			t.Errorf("P3: of list %d", i)
		}
	}
}
