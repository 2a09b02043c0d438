package book_test

import (
	"fmt"
	"math"
	"slices"
	"strings"
	"testing"
	"unsafe"

	"canton/api"
	"canton/book"
)

// TestP1AnyData hands in whatever may be handed in, to a book that no New made, too.
func TestP1AnyData(t *testing.T) {
	texts := []string{"", "a", "/a", "/A", "\x00", "\xff\xfe", "/", "/é", "/" + strings.Repeat("a", 1<<20), strings.Repeat("/a", 1<<19), strings.Repeat("/", 1<<20)}
	numbers := []int64{0, 1, -1, api.MaxTick, api.MaxTick + 1, math.MaxInt64, math.MinInt64}
	var all []book.Entry
	for _, b := range []*book.Book{book.New(), of(t, at("/a", 1, 1)), of(t, many(api.MaxBook)...), {}} {
		for i, p := range texts {
			for j, n := range numbers {
				e := at(p, numbers[(i+j)%len(numbers)], n)
				all = append(all, e)
				b.Put(e)
				for _, age := range numbers {
					b.Sweep(n, age, p)
				}
			}
			b.Get(p)
			b.Under(p)
			b.Drop(p)
		}
		b.Row()
		b.Twin().Row()
	}
	for i, e := range all {
		book.Check(all[i:])
		book.Check(all[i:min(i+api.MaxBook, len(all))])
		for _, o := range all {
			book.Newer(e, o)
		}
	}
	book.Check(make([]book.Entry, 1<<16))
}

func TestP1NoNew(t *testing.T) {
	b := &book.Book{}
	has(t, b, "[]")
	has(t, b.Twin(), "[]")
	puts(t, b, at("/a", 1, 1), api.OK)
	has(t, b, "[{/a 1 1}]")
}

// fill writes over entries, their spare room too.
func fill(l []book.Entry) {
	for i := range l[:cap(l)] {
		l[:cap(l)][i] = at("/filled", 9, 9)
	}
}

// fillPaths writes over paths, their spare room too.
func fillPaths(l []string) {
	for i := range l[:cap(l)] {
		l[:cap(l)][i] = "/filled"
	}
}

// TestP2HandedIn holds what is handed in against what it was, the spare room too.
func TestP2HandedIn(t *testing.T) {
	for _, l := range [][]book.Entry{{at("/a", 1, 1), at("/b", 2, 2)}, {at("/b", 1, 1), at("/a", 2, 2)}, {at("/b", -1, 1), at("", 2, 2)}} {
		l = append(append(make([]book.Entry, 0, 4), l...), at("/z", 1, 1), at("/y", 1, 1))[:2]
		before := slices.Clone(l[:4])
		want := modelCheck(l)
		checks(t, l, want)
		checks(t, l, want)
		if !slices.Equal(l[:4], before) {
			t.Errorf("P2: Check left %v of %v", l[:4], before)
		}
	}
}

// TestP2Answers writes over all that is answered.
func TestP2Answers(t *testing.T) {
	want := &model{[]book.Entry{at("/a", 1, 1), at("/b", 2, 2), at("/b/c", 3, 3)}}
	b := of(t, want.entries...)
	w := b.Twin()
	for _, c := range []*book.Book{b, w} {
		fill(c.Row())
		holds(t, b, want)
		holds(t, w, want)
		fillPaths(c.Under("/b"))
		holds(t, b, want)
		holds(t, w, want)
	}
	fillPaths(w.Sweep(9, 7, ""))
	has(t, w, "[{/b 2 2} {/b/c 3 3}]")
	holds(t, b, want)
	one, other := b.Row(), b.Row()
	fill(one)
	if !slices.Equal(other, want.entries) {
		t.Errorf("P2: Row: %v", other)
	}
	old := b.Row()
	puts(t, b, at("/a", 9, 9), api.OK)
	b.Drop("/b")
	if !slices.Equal(old, want.entries) {
		t.Errorf("P2: Row of before: %v", old)
	}
}

// TestP2Texts looks whether a kept text is a piece of what was handed in.
func TestP2Texts(t *testing.T) {
	whole := strings.Repeat("/abc", 1<<10)
	b := book.New()
	for tick := range int64(2) {
		puts(t, b, at(whole[:8], 1, tick), api.OK)
		e, _ := b.Get("/abc/abc")
		for i, p := range []string{e.Path, b.Row()[0].Path, b.Under("/")[0], b.Twin().Row()[0].Path} {
			if p != whole[:8] || unsafe.StringData(p) == unsafe.StringData(whole) {
				t.Errorf("P2: text %d: %q", i, p)
			}
		}
	}
}

// TestP2Empty hands in no list (nil) and an empty one: they are the same.
func TestP2Empty(t *testing.T) {
	for _, l := range [][]book.Entry{nil, {}, many(3)[:0]} {
		checks(t, l, api.OK)
	}
}

func TestP3SameCallsSameAnswers(t *testing.T) {
	run := func() string {
		b := book.New()
		s := ""
		for _, e := range []book.Entry{at("/c", 1, 3), at("/a", 1, 3), at("/b", 1, 3), at("/b/d", 1, 4), at("/a", 0, 4), at("/a", 2, 1)} {
			s += fmt.Sprintln(b.Put(e), b.Row(), b.Under("/b"))
		}
		return s + fmt.Sprintln(b.Sweep(5, 1, "/b"), b.Row(), b.Twin().Row(), book.Check(b.Row()))
	}
	want := run()
	for range 100 {
		if s := run(); s != want {
			t.Fatalf("P3: %s, not %s", s, want)
		}
	}
}

// TestP7Own: nobody else has a book that was answered.
func TestP7Own(t *testing.T) {
	a, b := book.New(), book.New()
	puts(t, a, at("/a", 1, 1), api.OK)
	has(t, b, "[]")
	c, d := a.Twin(), a.Twin()
	puts(t, c, at("/b", 1, 1), api.OK)
	has(t, a, "[{/a 1 1}]")
	has(t, d, "[{/a 1 1}]")
	has(t, c, "[{/a 1 1} {/b 1 1}]")
}
