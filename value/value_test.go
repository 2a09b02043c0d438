package value_test

import (
	"fmt"
	"math"
	"regexp"
	"slices"
	"strconv"
	"strings"
	"testing"

	"canton/api"
	"canton/value"
)

func num(n int64) value.Value { return value.Value{Kind: api.Int, I: n} }

func text(s string) value.Value { return value.Value{Kind: api.Text, S: s} }

func list(l ...int64) value.Value { return value.Value{Kind: api.List, L: l} }

// upTo answers the list 0, 1, .. of n numbers.
func upTo(n int) []int64 {
	l := []int64{}
	for i := range n {
		l = append(l, int64(i))
	}
	return l
}

// noKinds are Kinds that there are not.
var noKinds = []int{0, 4, -1, 256 + api.Int, math.MaxInt, math.MinInt}

func checks(t *testing.T, want api.Errno, all ...value.Value) {
	t.Helper()
	for _, v := range all {
		if got := value.Check(v); got != want {
			t.Errorf("P201: Check(%+v): %v, not %v", v, got, want)
		}
	}
}

func TestP201CheckKind(t *testing.T) {
	for _, k := range noKinds {
		checks(t, api.ErrKind, value.Value{Kind: k}, value.Value{Kind: k, I: 1, S: "a", L: []int64{1}}, value.Value{Kind: k, S: strings.Repeat("a", 65)})
	}
}

func TestP201CheckInt(t *testing.T) {
	checks(t, api.OK, num(0), num(-1), num(math.MinInt64), num(math.MaxInt64))
}

func TestP201CheckText(t *testing.T) {
	checks(t, api.OK, text(""), text(" "), text("~"), text("a b"), text("[1]"), text(`\`), text(strings.Repeat("~", 64)))
	checks(t, api.ErrLong, text(strings.Repeat("a", 65)), text(strings.Repeat("a", 10000)))
	for c := range 256 {
		want := api.OK
		if c < 0x20 || c > 0x7E || c == '"' {
			want = api.ErrForm
		}
		b := string([]byte{byte(c)})
		checks(t, want, text(b), text(b+"ab"), text("a"+b+"b"), text("ab"+b), text(strings.Repeat("a", 63)+b))
	}
	checks(t, api.ErrForm, text("é"), text("日本"))
	// Bytes are counted, not runes.
	checks(t, api.ErrLong, text(strings.Repeat("é", 33)))
	checks(t, api.ErrForm, text(strings.Repeat("é", 32)))
}

func TestP201CheckList(t *testing.T) {
	checks(t, api.OK, list(), value.Value{Kind: api.List, L: []int64{}}, list(7), list(-1, 0), list(math.MinInt64, -1, 0, math.MaxInt64), list(upTo(16)...))
	checks(t, api.ErrLong, list(upTo(17)...), list(upTo(10000)...))
	checks(t, api.ErrForm, list(1, 1), list(2, 1), list(1, 2, 2), list(1, 3, 2), list(2, 1, 3), list(0, -1), list(math.MaxInt64, math.MinInt64), list(append(upTo(15), 14)...), list(append(upTo(15), 0)...))
}

func TestP201CheckLongComesFirst(t *testing.T) {
	checks(t, api.ErrLong, text(strings.Repeat("\n", 65)), text(strings.Repeat("a", 64)+`"`), list(make([]int64, 17)...), list(append(upTo(16), 0)...))
}

func TestP201CheckLooksAtWhatTheKindNames(t *testing.T) {
	long, bad := strings.Repeat("\n", 65), make([]int64, 17)
	checks(t, api.OK, value.Value{Kind: api.Int, S: long, L: bad}, value.Value{Kind: api.Text, I: 7, L: bad}, value.Value{Kind: api.List, I: 7, S: long})
}

// inOrder are values that rise.
func inOrder() []value.Value {
	return []value.Value{
		{Kind: math.MinInt}, {Kind: -1}, {},
		num(math.MinInt64), num(-10), num(-9), num(0), num(9), num(10), num(math.MaxInt64),
		text(""), text("\x00"), text(" "), text("10"), text("9"), text("A"), text("a"), text("a\x00"), text("aa"), text("b"), text("é"), text("\xff"),
		list(), list(math.MinInt64), list(-1), list(-1, 0), list(0), list(0, math.MinInt64), list(0, 5), list(0, 5, 1), list(0, 6), list(1), list(10), list(math.MaxInt64), list(math.MaxInt64, 0),
		{Kind: 4}, {Kind: math.MaxInt},
	}
}

func TestP201CompareAndSame(t *testing.T) {
	all := inOrder()
	for i, a := range all {
		for k, b := range all {
			want := min(max(i-k, -1), 1)
			if got := value.Compare(a, b); got != want {
				t.Errorf("P201: Compare(%+v, %+v): %d, not %d", a, b, got, want)
			}
			if got := value.Same(a, b); got != (i == k) {
				t.Errorf("P201: Same(%+v, %+v): %v", a, b, got)
			}
		}
	}
}

func TestP201AlikeWithoutSharing(t *testing.T) {
	for _, c := range [][2]value.Value{
		{text(strings.Repeat("ab", 30)), text(strings.Repeat("abab", 15))},
		{list(upTo(16)...), list(upTo(16)...)},
		{list(), {Kind: api.List, L: []int64{}}},
		{list(upTo(9)[:3]...), list(0, 1, 2)},
	} {
		if value.Compare(c[0], c[1]) != 0 || !value.Same(c[0], c[1]) {
			t.Errorf("P201: %+v, %+v", c[0], c[1])
		}
	}
}

func TestP201OnlyWhatTheKindNamesCounts(t *testing.T) {
	more := func(v value.Value) value.Value {
		if v.Kind != api.Int {
			v.I = 5
		}
		if v.Kind != api.Text {
			v.S = "more"
		}
		if v.Kind != api.List {
			v.L = []int64{5}
		}
		return v
	}
	for _, v := range inOrder() {
		w := more(v)
		if value.Compare(v, w) != 0 || value.Compare(w, v) != 0 || !value.Same(v, w) || !value.Same(w, v) {
			t.Errorf("P201: Compare, Same of %+v, %+v", v, w)
		}
		if value.Text(v) != value.Text(w) {
			t.Errorf("P201: Text of %+v: %s", w, value.Text(w))
		}
	}
}

func TestP201Text(t *testing.T) {
	for _, c := range []struct {
		v    value.Value
		want string
	}{
		{num(0), "0"}, {num(-1), "-1"}, {num(120), "120"},
		{num(math.MinInt64), "-9223372036854775808"}, {num(math.MaxInt64), "9223372036854775807"},
		{text(""), `""`}, {text("a b"), `"a b"`}, {text(`a\n`), `"a\n"`}, {text("[1]"), `"[1]"`},
		{list(), "[]"}, {list(0), "[0]"}, {list(-3, 4), "[-3 4]"},
		{list(upTo(16)...), "[0 1 2 3 4 5 6 7 8 9 10 11 12 13 14 15]"},
		{list(math.MinInt64, math.MaxInt64), "[-9223372036854775808 9223372036854775807]"},
		// What Check refuses is told as it is.
		{text("a\"b\n"), "\"a\"b\n\""}, {list(2, 1, 1), "[2 1 1]"},
	} {
		if got := value.Text(c.v); got != c.want {
			t.Errorf("P201: Text(%+v): %s, not %s", c.v, got, c.want)
		}
	}
	for _, k := range noKinds {
		if got := value.Text(value.Value{Kind: k, I: 1, S: "a", L: []int64{1}}); got != "" {
			t.Errorf("P201: Text of Kind %d: %s", k, got)
		}
	}
}

// is tells whether a and b are the same in every field.
func is(a, b value.Value) bool {
	return a.Kind == b.Kind && a.I == b.I && a.S == b.S && slices.Equal(a.L, b.L)
}

func TestP201ParseIsTextBack(t *testing.T) {
	for _, v := range inOrder() {
		if value.Check(v) != api.OK {
			continue
		}
		if got, e := value.Parse(value.Text(v)); e != api.OK || !is(got, v) {
			t.Errorf("P201, P4: Parse(%s): %+v, %v", value.Text(v), got, e)
		}
	}
	for _, v := range []value.Value{text(strings.Repeat("~", 64)), text(`[1 2]`), text("7"), list(upTo(16)...), list(math.MinInt64, 0, math.MaxInt64)} {
		if got, e := value.Parse(value.Text(v)); e != api.OK || !is(got, v) {
			t.Errorf("P201, P4: Parse(%s): %+v, %v", value.Text(v), got, e)
		}
	}
}

func refuses(t *testing.T, want api.Errno, all ...string) {
	t.Helper()
	for _, s := range all {
		if got, e := value.Parse(s); e != want || !is(got, value.Value{}) {
			t.Errorf("P201, P4: Parse(%q): %+v, %v; want %v", s, got, e, want)
		}
	}
}

func TestP201ParseRefusesWhatIsNoNumber(t *testing.T) {
	no := []string{"", "-", "+", "--1", "+1", "-+1", "01", "00", "-01", "-0", "-00", "1-", "1-1", "1_0", "0x1", "0b1", "0o7", "1e3", "1.0", "1.", "a", "1a", "a1", "٣", "\x00", "1\n", "\t1", "9223372036854775808", "-9223372036854775809", "18446744073709551616", "10000000000000000000000000000", strings.Repeat("9", 5000), strings.Repeat("0", 5000) + "1"}
	refuses(t, api.ErrForm, no...)
	refuses(t, api.ErrForm, " 1", "1 ", "1 2", "-9223372036854775808 ", "- 1")
	for _, s := range no[1:] {
		refuses(t, api.ErrForm, "["+s+"]", "["+s+" 1]", "[-5 "+s+"]", "[-5 "+s+" 5]")
	}
}

func TestP201ParseRefusesWhatIsNoText(t *testing.T) {
	refuses(t, api.ErrForm, `"`, `"a`, `a"`, ` "a"`, `"a" `, `"a"b`, `'a'`, "`a`", `"a]`, `"""`, `"a"b"`, `"" ""`, `"\""`, "\"\x1f\"", "\"\x7f\"", "\"a\n\"", `"é"`, "\"a\"\n")
	refuses(t, api.ErrLong, `"`+strings.Repeat("a", 65)+`"`, `"`+strings.Repeat("a", 9000)+`"`, `"`+strings.Repeat("\n", 65)+`"`, `"`+strings.Repeat(`"`, 65)+`"`)
	refuses(t, api.ErrForm, `"`+strings.Repeat("a", 65), `"`+strings.Repeat("a", 64)+"\n")
}

func TestP201ParseRefusesWhatIsNoList(t *testing.T) {
	refuses(t, api.ErrForm, "[", "]", "][", "[1", "1]", "[1]]", "[[1]]", "[[]]", "[][]", "[1] ", " [1]", "[ ]", "[  ]", "[ 1]", "[1 ]", "[1  2]", "[1,2]", "[1, 2]", "[1\t2]", `["a"]`, `[1 "a"]`, "[1\"", "(1)", "{1}")
	refuses(t, api.ErrForm, "[1 1]", "[2 1]", "[1 3 2]", "[0 -1]")
}

func TestP201ParseOfLongLists(t *testing.T) {
	of := func(n int) string { return value.Text(list(upTo(n)...)) }
	if got, e := value.Parse(of(16)); e != api.OK || !is(got, list(upTo(16)...)) {
		t.Errorf("P201: %+v, %v", got, e)
	}
	refuses(t, api.ErrLong, of(17), of(18), of(5000), "["+strings.Repeat("7 ", 16)+"7]", "["+strings.Repeat("7 ", 4000)+"7]")
	// What is no list at all is none of too many numbers either (P6).
	for _, n := range []int{15, 16, 17, 18, 5000} {
		s := strings.TrimSuffix(of(n), "]")
		refuses(t, api.ErrForm, s, s+" ]", s+" x]", s+" 01]", s+" 9223372036854775808]", s+"\"")
	}
}

// TestP201ParseOfAllShortTexts holds Parse against the forms, written down again.
func TestP201ParseOfAllShortTexts(t *testing.T) {
	const bytes = `01-" []a+`
	all := []string{""}
	for begin := 0; len(all[begin]) < 5; begin++ {
		for _, c := range bytes {
			all = append(all, all[begin]+string(c))
		}
	}
	const number = `(0|-?[1-9][0-9]*)`
	form := regexp.MustCompile(`^(` + number + `|"[^"]*"|\[(` + number + `( ` + number + `)*)?\])$`)
	for _, s := range all {
		got, e := value.Parse(s)
		if ok := form.MatchString(s) && rises(s); ok != (e == api.OK) || !ok && e != api.ErrForm {
			t.Fatalf("P201: Parse(%q): %+v, %v", s, got, e)
		}
		if e == api.OK && (value.Text(got) != s || value.Check(got) != api.OK) || e != api.OK && !is(got, value.Value{}) {
			t.Fatalf("P201: Parse(%q): %+v, %v", s, got, e)
		}
	}
}

// rises tells whether s is no list, or one whose numbers rise.
func rises(s string) bool {
	if !strings.HasPrefix(s, "[") {
		return true
	}
	words := strings.Fields(strings.Trim(s, "[]"))
	for i := 1; i < len(words); i++ {
		a, _ := strconv.Atoi(words[i-1])
		b, _ := strconv.Atoi(words[i])
		if a >= b {
			return false
		}
	}
	return true
}

func TestP2WhatIsHandedInStays(t *testing.T) {
	room := []int64{1, 2, 3, 40, 50}
	v, w := list(room[:3]...), list(room[:2]...)
	value.Check(v)
	value.Compare(v, w)
	value.Same(v, w)
	value.Text(v)
	if !slices.Equal(room, []int64{1, 2, 3, 40, 50}) || len(v.L) != 3 || len(w.L) != 2 {
		t.Errorf("P2: %v", room)
	}
}

func TestP2AnswersAreNewMemory(t *testing.T) {
	a, _ := value.Parse("[1 2 3]")
	b, _ := value.Parse("[1 2 3]")
	for i := range a.L[:cap(a.L)] {
		a.L[:cap(a.L)][i] = 9
	}
	c, _ := value.Parse("[1 2 3]")
	if !is(b, list(1, 2, 3)) || !is(c, list(1, 2, 3)) {
		t.Errorf("P2: %v, %v", b, c)
	}
}

// TestP1AnyData: whatever it is given, each call ends, and answers the same again (P3).
func TestP1AnyData(t *testing.T) {
	all := append(inOrder(), text(strings.Repeat("\"", 1<<20)), list(make([]int64, 1<<20)...))
	for _, a := range all {
		s := value.Text(a)
		v, e := value.Parse(s)
		w, f := value.Parse(s)
		if !is(v, w) || e != f || value.Check(a) != value.Check(a) || s != value.Text(a) {
			t.Errorf("P3: %v", fmt.Sprint(a.Kind, e, f))
		}
		for _, b := range all {
			if value.Compare(a, b) != -value.Compare(b, a) {
				t.Errorf("P201: Compare of Kinds %d, %d", a.Kind, b.Kind)
			}
		}
	}
}
