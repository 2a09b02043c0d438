package digest_test

import (
	"fmt"
	"math"
	"strings"
	"testing"

	"canton/api"
	"canton/digest"
	"canton/row"
	"canton/stamp"
	"canton/value"
)

// TestP1AnyData hands in what may not be, too: not rising, twice, of no Name.
func TestP1AnyData(t *testing.T) {
	long := strings.Repeat("a", 1<<20)
	texts := []string{"", "b", "A", "b", "\x00", "\xff\xfe", "/", "é", long, "a"}
	numbers := []int64{0, 1, -1, api.MaxTick, api.MaxTick + 1, math.MaxInt64, math.MinInt64}
	attrs := [][]row.Attr{nil, {}, {{}}, {{Name: "b"}, {Name: "a"}, {Name: "a"}}, {{Name: "a", Value: list(3, 2)}}, {{Name: "a", Value: text(long)}}, {{Name: "a", Value: list(make([]int64, 1<<16)...)}}, {{Value: value.Value{Kind: -1, S: long}}}}
	var l []row.Row
	var keys []string
	for i, key := range texts {
		for j, n := range numbers {
			l = append(l, row.Row{Key: key, Stamp: stamp.Stamp{Tick: n, Inc: numbers[(i+j)%7], Seq: numbers[i%7], Origin: texts[(i+j)%len(texts)]}, Attrs: attrs[(i+j)%len(attrs)]})
			keys = append(keys, key)
		}
	}
	marks := digest.Of(l)
	for i := range len(l) + 1 {
		for _, j := range []int{0, i / 2, i, len(l)} {
			digest.Send(l[i:], marks[j:])
			digest.Want(l[:i], marks[j:])
			digest.Pick(l[i:], keys[:j])
			digest.Check(marks[i:])
		}
	}
	digest.Of(make([]row.Row, 1<<16))
	digest.Send(make([]row.Row, 1<<16), make([]digest.Mark, 1<<16))
	digest.Want(make([]row.Row, 1<<16), make([]digest.Mark, 1<<16))
	digest.Pick(make([]row.Row, 1<<16), make([]string, 1<<16))
	digest.Check(make([]digest.Mark, 1<<16))
}

// fill writes over rows, their spare room too.
func fill(l []row.Row) {
	l = l[:cap(l)]
	for i := range l {
		fillAttrs(l[i].Attrs)
		l[i] = row.Row{Key: "filled", Attrs: []row.Attr{{Name: "filled"}}}
	}
}

func fillAttrs(l []row.Attr) {
	l = l[:cap(l)]
	for i := range l {
		v := l[i].Value.L
		v = v[:cap(v)]
		for j := range v {
			v[j] = 99
		}
		l[i] = row.Attr{Name: "filled", Value: list(99)}
	}
}

func fillMarks(l []digest.Mark) {
	for i := range l[:cap(l)] {
		l[:cap(l)][i] = digest.Mark{Key: "filled"}
	}
}

func fillKeys(l []string) {
	for i := range l[:cap(l)] {
		l[:cap(l)][i] = "filled"
	}
}

// handed is what is handed in, with room to spare.
type handed struct {
	l     []row.Row
	other []digest.Mark
	keys  []string
}

func newHanded() handed {
	return handed{
		append(make([]row.Row, 0, 6), made("a", 1), made("b", 2), made("c", 3), made("d", 4)),
		append(make([]digest.Mark, 0, 6), mark("a", 1), mark("b", 1), mark("c", 4), mark("e", 1)),
		append(make([]string, 0, 6), "c", "a", "e", "a"),
	}
}

// whole is all that h has, the spare room too.
func (h handed) whole() string {
	s := told(h.l[:cap(h.l)]) + toldMarks(h.other[:cap(h.other)]) + toldKeys(h.keys[:cap(h.keys)])
	for _, r := range h.l {
		all := r.Attrs[:cap(r.Attrs)]
		s += told([]row.Row{{Attrs: all}})
		for _, a := range all {
			s += fmt.Sprintln(a.Value.L[:cap(a.Value.L)])
		}
	}
	return s
}

// calls answers each call's answer as a text, and writes over it then.
func (h handed) calls() []string {
	marks, sent, wanted, picked := digest.Of(h.l), digest.Send(h.l, h.other), digest.Want(h.l, h.other), digest.Pick(h.l, h.keys)
	out := []string{toldMarks(marks), told(sent), toldKeys(wanted), told(picked), digest.Check(h.other).Error()}
	fillMarks(marks)
	fill(sent)
	fillKeys(wanted)
	fill(picked)
	return out
}

// TestP2HandedIn holds what is handed in against what it was, answers written over, too.
func TestP2HandedIn(t *testing.T) {
	h := newHanded()
	before := h.whole()
	want := fmt.Sprint(h.calls())
	if after := h.whole(); after != before {
		t.Errorf("P2: left\n%s\nof\n%s", after, before)
	}
	if s := fmt.Sprint(h.calls()); s != want {
		t.Errorf("P2: %s, not %s", s, want)
	}
}

// TestP2Kept writes over what was handed in and looks at the answers.
func TestP2Kept(t *testing.T) {
	h := newHanded()
	marks, sent, wanted, picked := digest.Of(h.l), digest.Send(h.l, h.other), digest.Want(h.l, h.other), digest.Pick(h.l, h.keys)
	fill(h.l)
	fillMarks(h.other)
	fillKeys(h.keys)
	got := fmt.Sprint([]string{toldMarks(marks), told(sent), toldKeys(wanted), told(picked), "ok"})
	if want := fmt.Sprint(newHanded().calls()); got != want {
		t.Errorf("P2: %s, not %s", got, want)
	}
}

// TestP2Apart writes over one list of an answer and looks at the others.
func TestP2Apart(t *testing.T) {
	shared := []int64{1, 2}
	both := []row.Attr{{Name: "a", Value: list(shared...)}, {Name: "b", Value: list(shared...)}}
	l := []row.Row{{Key: "a", Stamp: at(1), Attrs: both}, {Key: "b", Stamp: at(1), Attrs: both}}
	want := told(l[1:])
	for i, out := range [][]row.Row{digest.Send(l, nil), digest.Pick(l, []string{"a", "b"})} {
		fillAttrs(out[0].Attrs)
		if s := told(out[1:]); s != want {
			t.Errorf("P2: %d: %s, not %s", i, s, want)
		}
		fillAttrs(out[1].Attrs[:1:1])
		if s := value.Text(out[1].Attrs[1].Value); s != "[1 2]" {
			t.Errorf("P2: %d: %s", i, s)
		}
	}
}

func TestP3SameCallsSameAnswers(t *testing.T) {
	want := fmt.Sprint(newHanded().calls())
	for range 100 {
		if s := fmt.Sprint(newHanded().calls()); s != want {
			t.Fatalf("P3: %s, not %s", s, want)
		}
	}
}

// TestP4NamedFields hands in values that have more than their Kind names.
func TestP4NamedFields(t *testing.T) {
	both := func(kind int) value.Value { return value.Value{Kind: kind, I: 7, S: "s", L: []int64{1, 2}} }
	l := []row.Row{{Key: "a", Stamp: at(1), Attrs: []row.Attr{{Name: "i", Value: both(api.Int)}, {Name: "l", Value: both(api.List)}, {Name: "t", Value: both(api.Text)}}}}
	want := told([]row.Row{{Key: "a", Stamp: at(1), Attrs: []row.Attr{{Name: "i", Value: num(7)}, {Name: "l", Value: list(1, 2)}, {Name: "t", Value: text("s")}}}})
	for i, out := range [][]row.Row{digest.Send(l, nil), digest.Pick(l, []string{"a"})} {
		if s := told(out); s != want {
			t.Errorf("P4: %d: %s, not %s", i, s, want)
		}
	}
}

// TestP2Empty hands in no list (nil) and an empty one: they are the same.
func TestP2Empty(t *testing.T) {
	l, other := []row.Row{made("a", 1)}, []digest.Mark{mark("a", 1)}
	for i, none := range []handed{{}, {[]row.Row{}, []digest.Mark{}, []string{}}} {
		if len(digest.Of(none.l)) != 0 || digest.Check(none.other) != api.OK {
			t.Errorf("P2: %d: Of, Check", i)
		}
		if told(digest.Send(l, none.other)) != told(l) || len(digest.Send(none.l, other)) != 0 || len(digest.Send(none.l, none.other)) != 0 {
			t.Errorf("P2: %d: Send", i)
		}
		if len(digest.Want(l, none.other)) != 0 || toldKeys(digest.Want(none.l, other)) != `["a"]` || len(digest.Want(none.l, none.other)) != 0 {
			t.Errorf("P2: %d: Want", i)
		}
		if len(digest.Pick(l, none.keys)) != 0 || len(digest.Pick(none.l, []string{"a"})) != 0 || len(digest.Pick(none.l, none.keys)) != 0 {
			t.Errorf("P2: %d: Pick", i)
		}
	}
}
