package book_test

import (
	"fmt"
	"math"
	"math/rand"
	"regexp"
	"slices"
	"strings"
	"testing"

	"canton/api"
	"canton/book"
)

// belowRoot is a second writing of which paths may be in a book.
var belowRoot = regexp.MustCompile(`\A(/[a-z][a-z0-9]{0,7}){1,4}\z`)

// model is a second writing of a book: its entries stand as they came.
type model struct{ entries []book.Entry }

func modelMay(e book.Entry) api.Errno {
	switch {
	case !belowRoot.MatchString(e.Path):
		return api.ErrName
	case e.Inc < 0 || e.Inc > 1e9 || e.Tick < 0 || e.Tick > 1e9:
		return api.ErrArg
	}
	return api.OK
}

func (m *model) at(p string) int {
	return slices.IndexFunc(m.entries, func(e book.Entry) bool { return e.Path == p })
}

func (m *model) put(e book.Entry) api.Errno {
	if no := modelMay(e); no != api.OK {
		return no
	}
	at := m.at(e.Path)
	switch {
	case at < 0 && len(m.entries) == 64:
		return api.ErrFull
	case at < 0:
		m.entries = append(m.entries, e)
	case e.Inc < m.entries[at].Inc || e.Inc == m.entries[at].Inc && e.Tick <= m.entries[at].Tick:
		return api.ErrOld
	default:
		m.entries[at] = e
	}
	return api.OK
}

func (m *model) get(p string) (book.Entry, bool) {
	if at := m.at(p); at >= 0 {
		return m.entries[at], true
	}
	return book.Entry{}, false
}

func (m *model) drop(p string) bool {
	n := len(m.entries)
	m.entries = slices.DeleteFunc(m.entries, func(e book.Entry) bool { return e.Path == p })
	return len(m.entries) < n
}

func (m *model) row() []book.Entry {
	return slices.SortedFunc(slices.Values(m.entries), func(a, b book.Entry) int { return strings.Compare(a.Path, b.Path) })
}

func (m *model) under(zone string) []string {
	var l []string
	for _, e := range m.row() {
		if zone == "/" || belowRoot.MatchString(zone) && strings.HasPrefix(e.Path+"/", zone+"/") {
			l = append(l, e.Path)
		}
	}
	return l
}

func (m *model) sweep(now, age int64, keep string) []string {
	var left []book.Entry
	var gone []string
	for _, e := range m.row() {
		if now < 0 || age < 0 || e.Path == keep || e.Tick >= now-age {
			left = append(left, e)
		} else {
			gone = append(gone, e.Path)
		}
	}
	m.entries = left
	return gone
}

func (m *model) twin() *model { return &model{slices.Clone(m.entries)} }

// modelCheck asks each entry whether it may be, all of it.
func modelCheck(l []book.Entry) api.Errno {
	if len(l) > 64 {
		return api.ErrLong
	}
	for i, e := range l {
		if no := modelMay(e); no != api.OK {
			return no
		}
		if i > 0 && strings.Compare(l[i-1].Path, e.Path) >= 0 {
			return api.ErrTwice
		}
	}
	return api.OK
}

// holds wants of b what the second writing has.
func holds(t *testing.T, b *book.Book, m *model, zones ...string) {
	t.Helper()
	want := m.row()
	if got := b.Row(); !slices.Equal(got, want) {
		t.Fatalf("P1601: Row: %v, not %v", got, want)
	}
	for _, e := range want {
		if got, ok := b.Get(e.Path); !ok || got != e {
			t.Fatalf("P1601: Get(%q): %+v, %v, not %+v", e.Path, got, ok, e)
		}
	}
	if e := book.Check(b.Row()); e != api.OK {
		t.Fatalf("P1601: Check of %v: %v", want, e)
	}
	for _, zone := range append(zones, "/") {
		if got, want := b.Under(zone), m.under(zone); !slices.Equal(got, want) {
			t.Fatalf("P1601: Under(%q): %q, not %q", zone, got, want)
		}
	}
}

func at(p string, inc, tick int64) book.Entry { return book.Entry{Path: p, Inc: inc, Tick: tick} }

// of answers a book that has these entries.
func of(t *testing.T, l ...book.Entry) *book.Book {
	t.Helper()
	b := book.New()
	for _, e := range l {
		puts(t, b, e, api.OK)
	}
	return b
}

func puts(t *testing.T, b *book.Book, e book.Entry, want api.Errno) {
	t.Helper()
	before := b.Row()
	if got := b.Put(e); got != want {
		t.Errorf("P1601: Put(%q): %v, not %v, to %v", fmt.Sprint(e), got, want, before)
	}
	if after := b.Row(); want != api.OK && !slices.Equal(after, before) {
		t.Errorf("P5: Put(%q): %v, and there is %v after %v", fmt.Sprint(e), want, after, before)
	}
}

func has(t *testing.T, b *book.Book, want string) {
	t.Helper()
	if s := fmt.Sprint(b.Row()); s != want {
		t.Errorf("P1601: there is %s, not %s", s, want)
	}
}

func checks(t *testing.T, l []book.Entry, want api.Errno) {
	t.Helper()
	if e := book.Check(l); e != want {
		t.Errorf("P1601: Check(%.200q): %v, not %v", fmt.Sprint(l), e, want)
	}
}

// many answers entries that may be, rising.
func many(n int) []book.Entry {
	var l []book.Entry
	for i := range n {
		l = append(l, at(fmt.Sprintf("/k%03d", i), int64(i%3), int64(i)))
	}
	return l
}

func TestP1601New(t *testing.T) {
	b := book.New()
	if len(b.Row()) != 0 || len(b.Under("/")) != 0 || len(b.Sweep(9, 0, "")) != 0 || b.Drop("/a") || len(b.Twin().Row()) != 0 {
		t.Errorf("P1601: something is in a new book")
	}
	if e, ok := b.Get("/a"); ok || e != (book.Entry{}) {
		t.Errorf("P4: Get of nothing: %+v, %v", e, ok)
	}
	if e, ok := b.Get(""); ok || e != (book.Entry{}) {
		t.Errorf("P4: Get of no path: %+v, %v", e, ok)
	}
}

func TestP1601Put(t *testing.T) {
	b := of(t, at("/b", 2, 5))
	puts(t, b, at("/b", 2, 5), api.ErrOld)
	puts(t, b, at("/b", 2, 4), api.ErrOld)
	puts(t, b, at("/b", 1, 9), api.ErrOld)
	puts(t, b, at("/b", 2, 6), api.OK)
	has(t, b, "[{/b 2 6}]")
	// A life that began later counts, though its Tick is an earlier one.
	puts(t, b, at("/b", 3, 0), api.OK)
	has(t, b, "[{/b 3 0}]")
	// Another Path is held against none.
	puts(t, b, at("/b/c", 0, 0), api.OK)
	puts(t, b, at("/a", 0, 0), api.OK)
	has(t, b, "[{/a 0 0} {/b 3 0} {/b/c 0 0}]")
	// What went may come back, elder than it was.
	b.Drop("/b")
	puts(t, b, at("/b", 1, 1), api.OK)
	has(t, b, "[{/a 0 0} {/b 1 1} {/b/c 0 0}]")
}

// TestP1601Newer holds all pairs of numbers at the edges, and whole books by them.
func TestP1601Newer(t *testing.T) {
	numbers := []int64{math.MinInt64, -1, 0, 1, 2, api.MaxTick, api.MaxTick + 1, math.MaxInt64}
	var rising []book.Entry
	for _, inc := range numbers {
		for _, tick := range numbers {
			rising = append(rising, at("", inc, tick))
		}
	}
	for i, a := range rising {
		for j, b := range rising {
			for _, paths := range [][2]string{{"/k", "/k"}, {"/a", "/b"}, {"/b", "/a"}, {"", "/"}, {"/", "x"}} {
				a.Path, b.Path = paths[0], paths[1]
				if got := book.Newer(a, b); got != (i > j) {
					t.Errorf("P1601: Newer(%+v, %+v): %v", a, b, got)
				}
			}
			a.Path, b.Path = "/k", "/k"
			if modelMay(a) != api.OK || modelMay(b) != api.OK {
				continue
			}
			want := api.ErrOld
			if i > j {
				want = api.OK
			}
			puts(t, of(t, b), a, want)
		}
	}
}

func TestP1601Refused(t *testing.T) {
	full := of(t, many(api.MaxBook)...)
	one := of(t, at("/k000", 5, 5))
	for _, p := range []string{"", "/", "x", "//", "/a/", "//a", "/a//b", "/A", "/0", "/a b", "/a\n", "\n/a", "/é", "/\xff", "/a\x00", "/abcdefghi", "/a/b/c/d/e", "k000", "/k000/", "/k000/*", "/**"} {
		for _, e := range []book.Entry{at(p, 0, 0), at(p, 9, 9), at(p, -1, -1), at(p, 1, api.MaxTick+1)} {
			puts(t, full, e, api.ErrName)
			puts(t, one, e, api.ErrName)
			puts(t, book.New(), e, api.ErrName)
		}
	}
	for _, n := range []int64{-1, api.MaxTick + 1, -api.MaxTick, 1 << 32, 1<<32 + 1, math.MaxInt64, math.MinInt64} {
		// P6: it counts ahead of ErrOld (/k000) and ErrFull (/new), and where neither is.
		for _, p := range []string{"/k000", "/new"} {
			for _, e := range []book.Entry{at(p, n, 0), at(p, 0, n), at(p, n, n), at(p, 9, n), at(p, n, 9)} {
				puts(t, full, e, api.ErrArg)
				puts(t, one, e, api.ErrArg)
				puts(t, book.New(), e, api.ErrArg)
			}
		}
	}
	// What may be at its least and at its most.
	long := strings.Repeat("/abcdefgh", api.MaxDepth)
	has(t, of(t, at("/a", 0, 0), at(long, api.MaxTick, api.MaxTick)), "[{/a 0 0} {"+long+" 1000000000 1000000000}]")
}

// TestP1601Room fills books, in a rising, a falling and a made-up order.
func TestP1601Room(t *testing.T) {
	falling := many(api.MaxBook)
	slices.Reverse(falling)
	mixed := many(api.MaxBook)
	rand.New(rand.NewSource(16)).Shuffle(len(mixed), func(i, j int) { mixed[i], mixed[j] = mixed[j], mixed[i] })
	for _, l := range [][]book.Entry{many(api.MaxBook), falling, mixed} {
		b, m := of(t, l...), &model{slices.Clone(l)}
		holds(t, b, m)
		for _, p := range []string{"/a", "/k000/a", "/k031a", "/z", "/k064"} {
			puts(t, b, at(p, 0, 0), api.ErrFull)
			puts(t, b, at(p, api.MaxTick, api.MaxTick), api.ErrFull)
		}
		// Of one that is there it is never ErrFull.
		for i, e := range many(api.MaxBook) {
			puts(t, b, e, api.ErrOld)
			puts(t, b, at(e.Path, e.Inc, e.Tick+1), api.OK)
			puts(t, b, at(e.Path, e.Inc, e.Tick), api.ErrOld)
			m.put(at(e.Path, e.Inc, e.Tick+1))
			if i%16 == 0 {
				puts(t, b.Twin(), at("/new", 9, 9), api.ErrFull)
			}
		}
		holds(t, b, m)
		// What went has left its room, for one each.
		b.Drop("/k007")
		b.Sweep(3, 0, "/k000")
		for _, p := range []string{"/a", "/z"} {
			puts(t, b, at(p, 0, 0), api.OK)
		}
		puts(t, b, at("/zz", 0, 0), api.ErrFull)
	}
}

func TestP1601Get(t *testing.T) {
	b := of(t, at("/b", 1, 2), at("/d", 1, 4), at("/b/b", 1, 3))
	want := "[{/b 1 2} {/b/b 1 3} {/d 1 4}]"
	for _, p := range []string{"", "/", "b", "/a", "/b/", "/b/a", "/b/b/b", "/bb", "/c", "/e", "/B", "/b ", "\x00", "\xff", "/b\x00", strings.Repeat("/b", 1<<19)} {
		if e, ok := b.Get(p); ok || e != (book.Entry{}) {
			t.Errorf("P4: Get(%.20q): %+v, %v", p, e, ok)
		}
		if b.Drop(p) {
			t.Errorf("P1601: Drop(%.20q): true", p)
		}
	}
	has(t, b, want)
	for _, c := range []struct{ p, left string }{{"/b/b", "[{/b 1 2} {/d 1 4}]"}, {"/b", "[{/d 1 4}]"}, {"/d", "[]"}} {
		if e, ok := b.Get(c.p); !ok || e.Path != c.p || e.Inc != 1 || e.Tick < 2 {
			t.Errorf("P1601: Get(%q): %+v, %v", c.p, e, ok)
		}
		if !b.Drop(c.p) || b.Drop(c.p) {
			t.Errorf("P1601: Drop(%q)", c.p)
		}
		if e, ok := b.Get(c.p); ok {
			t.Errorf("P1601: Get(%q) of what was dropped: %+v", c.p, e)
		}
		has(t, b, c.left)
	}
}

// TestP1601Order puts entries in each order.
func TestP1601Order(t *testing.T) {
	want := []string{"/a", "/a/b", "/a0", "/aa", "/b/a", "/z"}
	var turn func(done []string, left []string)
	turn = func(done []string, left []string) {
		if len(left) == 0 {
			b := book.New()
			for i, p := range done {
				puts(t, b, at(p, 1, int64(i)), api.OK)
			}
			for i, e := range b.Row() {
				if e.Path != want[i] || done[e.Tick] != e.Path {
					t.Fatalf("P1601: Row: %v, of %q", b.Row(), done)
				}
			}
			if l := b.Under("/"); !slices.Equal(l, want) {
				t.Fatalf("P1601: Under: %q, of %q", l, done)
			}
			if l := b.Sweep(9, 0, ""); !slices.Equal(l, want) {
				t.Fatalf("P1601: Sweep: %q, of %q", l, done)
			}
			return
		}
		for i, p := range left {
			turn(append(slices.Clip(done), p), slices.Delete(slices.Clone(left), i, i+1))
		}
	}
	turn(nil, want)
}

// TestP1601Under asks for all short zones, of all short paths.
func TestP1601Under(t *testing.T) {
	paths := []string{""}
	for from := 0; strings.Count(paths[from], "/") < 3; from++ {
		for _, part := range []string{"a", "aa", "b"} {
			paths = append(paths, paths[from]+"/"+part)
		}
	}
	b, m := book.New(), &model{}
	for _, p := range paths[1:] {
		puts(t, b, at(p, 1, 1), m.put(at(p, 1, 1)))
	}
	holds(t, b, m, paths...)
	holds(t, b, m, "//", "/a/", "a", "/A", "/a/*", "/**", "/a/b/a/b", "/a/b/a/b/a", "/c", "/a/c", "/a\n", "\xff", "/aaaaaaaaa", "/ab", "/a/a/a/aa")
	if l := b.Under("/a/b"); fmt.Sprint(l) != "[/a/b /a/b/a /a/b/aa /a/b/b]" {
		t.Errorf("P1601: Under: %q", l)
	}
}

func TestP1601Sweep(t *testing.T) {
	all := "[/a /b /c /d]"
	for _, c := range []struct {
		now, age   int64
		keep, gone string
		left       string
	}{
		{9, 3, "", "[/a /b]", "[/c /d]"}, {9, 2, "", "[/a /b /c]", "[/d]"}, {9, 4, "", "[/a]", "[/b /c /d]"},
		{9, 3, "/a", "[/b]", "[/a /c /d]"}, {9, 3, "/b", "[/a]", "[/b /c /d]"}, {9, 3, "/c", "[/a /b]", "[/c /d]"}, {9, 3, "/e", "[/a /b]", "[/c /d]"}, {9, 3, "a", "[/a /b]", "[/c /d]"}, {9, 3, "/", "[/a /b]", "[/c /d]"},
		{9, 0, "", "[/a /b /c]", "[/d]"}, {10, 0, "", all, "[]"}, {0, 0, "", "[]", all}, {2, 0, "", "[]", all}, {3, 0, "", "[/a]", "[/b /c /d]"},
		{9, 9, "", "[]", all}, {1, 9, "", "[]", all}, {100, 1, "/zz", all, "[]"}, {100, 1, "/A", all, "[]"},
		{-1, 3, "", "[]", all}, {100, -1, "", "[]", all}, {-1, -9, "", "[]", all}, {-1, -100, "", "[]", all}, {0, -100, "", "[]", all},
		{math.MaxInt64, math.MinInt64, "", "[]", all}, {math.MinInt64, math.MaxInt64, "", "[]", all}, {math.MinInt64, math.MinInt64, "", "[]", all}, {-2, math.MaxInt64, "", "[]", all}, {math.MaxInt64, -1, "", "[]", all},
		{math.MaxInt64, 0, "/d", "[/a /b /c]", "[/d]"}, {0, math.MaxInt64, "", "[]", all}, {math.MaxInt64, math.MaxInt64, "", "[]", all}, {math.MaxInt64, math.MaxInt64 - 3, "", "[/a]", "[/b /c /d]"},
	} {
		// Inc does not count.
		b := of(t, at("/d", 0, 9), at("/a", 7, 2), at("/c", 1, 6), at("/b", api.MaxTick, 5))
		for i, gone := range []string{c.gone, "[]"} {
			if s := fmt.Sprint(b.Sweep(c.now, c.age, c.keep)); s != gone {
				t.Errorf("P1601: Sweep(%d, %d, %q), %d: %s, not %s", c.now, c.age, c.keep, i, s, gone)
			}
			if s := fmt.Sprint(b.Under("/")); s != c.left || len(b.Row()) != strings.Count(c.left, "/") {
				t.Errorf("P1601: Sweep(%d, %d, %q), %d: left %s, not %s", c.now, c.age, c.keep, i, s, c.left)
			}
		}
	}
	b := of(t, at("/a", 1, 0), at("/b", 1, api.MaxTick))
	if s := fmt.Sprint(b.Sweep(api.MaxTick, 0, "")); s != "[/a]" {
		t.Errorf("P1601: Sweep: %s", s)
	}
	has(t, b, "[{/b 1 1000000000}]")
}

// TestP1601Twin holds a twin and its model apart.
func TestP1601Twin(t *testing.T) {
	b := of(t, at("/a", 1, 2), at("/b", 1, 3))
	w := b.Twin()
	if w == b {
		t.Fatalf("P7: Twin: the book itself")
	}
	has(t, w, "[{/a 1 2} {/b 1 3}]")
	puts(t, w, at("/c", 1, 4), api.OK)
	puts(t, b, at("/b", 1, 8), api.OK)
	has(t, w, "[{/a 1 2} {/b 1 3} {/c 1 4}]")
	has(t, b, "[{/a 1 2} {/b 1 8}]")
	puts(t, b, at("/ab", 1, 9), api.OK)
	w.Drop("/b")
	b.Sweep(9, 1, "")
	has(t, w, "[{/a 1 2} {/c 1 4}]")
	has(t, b, "[{/ab 1 9} {/b 1 8}]")
}

// TestP1601Short goes through all short lists of calls.
func TestP1601Short(t *testing.T) {
	var calls []func(*book.Book) any
	var wants []func(*model) any
	for _, p := range []string{"/a", "/a/b", "/b"} {
		for _, n := range [][2]int64{{1, 1}, {1, 2}, {2, 0}} {
			e := at(p, n[0], n[1])
			calls = append(calls, func(b *book.Book) any { return b.Put(e) })
			wants = append(wants, func(m *model) any { return m.put(e) })
		}
	}
	calls = append(calls, func(b *book.Book) any { return b.Drop("/a") }, func(b *book.Book) any { return fmt.Sprint(b.Sweep(2, 1, "/b")) }, func(b *book.Book) any { return fmt.Sprint(b.Sweep(2, 0, "/a/b")) })
	wants = append(wants, func(m *model) any { return m.drop("/a") }, func(m *model) any { return fmt.Sprint(m.sweep(2, 1, "/b")) }, func(m *model) any { return fmt.Sprint(m.sweep(2, 0, "/a/b")) })
	var walk func(b *book.Book, m *model, left int)
	walk = func(b *book.Book, m *model, left int) {
		if left == 0 {
			return
		}
		for i := range calls {
			c, n := b.Twin(), m.twin()
			if got, want := calls[i](c), wants[i](n); got != want {
				t.Fatalf("P1601: call %d: %v, not %v, of %v", i, got, want, b.Row())
			}
			holds(t, c, n, "/a", "/a/b", "/b")
			walk(c, n, left-1)
		}
		holds(t, b, m)
	}
	walk(book.New(), &model{}, 4)
}

// TestP1601Long makes up long lists of calls, about as many paths as have room.
func TestP1601Long(t *testing.T) {
	draw := rand.New(rand.NewSource(1601))
	for range 100 {
		b, m := book.New(), &model{}
		paths := 1 + draw.Intn(100)
		for range 6 * paths {
			step(t, draw, b, m, paths)
			if draw.Intn(20) == 0 {
				c, n := b.Twin(), m.twin()
				step(t, draw, c, n, paths)
				holds(t, c, n)
			}
		}
		holds(t, b, m, "/z1", "/z2", "/z2/y", "/")
	}
}

func step(t *testing.T, draw *rand.Rand, b *book.Book, m *model, paths int) {
	t.Helper()
	p := anyPath(draw, paths)
	switch draw.Intn(16) {
	case 0:
		if got, want := b.Drop(p), m.drop(p); got != want {
			t.Fatalf("P1601: Drop(%q): %v, not %v", p, got, want)
		}
	case 1:
		now, age := draw.Int63n(14)-1, draw.Int63n(14)-1
		if got, want := b.Sweep(now, age, p), m.sweep(now, age, p); !slices.Equal(got, want) {
			t.Fatalf("P1601: Sweep(%d, %d, %q): %v, not %v", now, age, p, got, want)
		}
	case 2:
		got, ok := b.Get(p)
		if want, there := m.get(p); got != want || ok != there {
			t.Fatalf("P1601: Get(%q): %+v, %v, not %+v", p, got, ok, want)
		}
	default:
		e := at(p, draw.Int63n(3), draw.Int63n(10))
		if draw.Intn(30) == 0 {
			e.Inc -= 2
		}
		if got, want := b.Put(e), m.put(e); got != want {
			t.Fatalf("P1601: Put(%+v): %v, not %v, to %v", e, got, want, m.row())
		}
	}
	holds(t, b, m, p)
}

// anyPath answers one out of so many paths, and now and then what is none.
func anyPath(draw *rand.Rand, paths int) string {
	i := draw.Intn(paths)
	p := fmt.Sprint("/z", i%4, []string{"", "/y", "/y/x"}[i%3], "/k", i)
	if draw.Intn(40) == 0 {
		return p + []string{"/", "A", "/a/b/c/d", "\n"}[draw.Intn(4)]
	}
	return p
}

// TestP1601Check holds all lists of up to three entries out of what may and may not be.
func TestP1601Check(t *testing.T) {
	var some []book.Entry
	for _, p := range []string{"", "/", "a", "/a", "/a/", "/a/b", "/ab", "/b", "/a/b/c/d/e"} {
		some = append(some, at(p, 1, 1), at(p, 0, 2), at(p, -1, 1), at(p, 1, api.MaxTick+1))
	}
	checks(t, nil, api.OK)
	checks(t, []book.Entry{}, api.OK)
	for _, a := range some {
		checks(t, []book.Entry{a}, modelCheck([]book.Entry{a}))
		for _, b := range some {
			checks(t, []book.Entry{a, b}, modelCheck([]book.Entry{a, b}))
			for _, c := range some {
				checks(t, []book.Entry{a, b, c}, modelCheck([]book.Entry{a, b, c}))
			}
		}
	}
}

// TestP1601Bent bends one entry of a long list, each place of it.
func TestP1601Bent(t *testing.T) {
	wrong := []struct {
		bend func(*book.Entry)
		want api.Errno
	}{
		{func(e *book.Entry) { e.Path = "" }, api.ErrName},
		{func(e *book.Entry) { e.Path = "/" }, api.ErrName},
		{func(e *book.Entry) { e.Path = strings.ToUpper(e.Path) }, api.ErrName},
		{func(e *book.Entry) { e.Path = e.Path[1:] }, api.ErrName},
		{func(e *book.Entry) { e.Path += "/" }, api.ErrName},
		{func(e *book.Entry) { e.Path += "00000" }, api.ErrName},
		{func(e *book.Entry) { e.Path += "/a/b/c/d" }, api.ErrName},
		{func(e *book.Entry) { e.Tick = -1 }, api.ErrArg},
		{func(e *book.Entry) { e.Tick = api.MaxTick + 1 }, api.ErrArg},
		{func(e *book.Entry) { e.Tick = math.MinInt64 }, api.ErrArg},
		{func(e *book.Entry) { e.Inc = -1 }, api.ErrArg},
		{func(e *book.Entry) { e.Inc = api.MaxTick + 1 }, api.ErrArg},
		{func(e *book.Entry) { e.Inc = math.MaxInt64 }, api.ErrArg},
		{func(e *book.Entry) { e.Inc, e.Tick = api.MaxTick, api.MaxTick }, api.OK},
		{func(e *book.Entry) { e.Inc, e.Tick = 0, 0 }, api.OK},
		{func(e *book.Entry) { e.Path += "/a/b/c" }, api.OK},
	}
	for n := range api.MaxBook + 6 {
		for i := range n {
			for _, w := range wrong {
				l := many(n)
				w.bend(&l[i])
				want := w.want
				if n > api.MaxBook {
					want = api.ErrLong
				}
				checks(t, l, want)
			}
		}
	}
}

// TestP1601Twice puts the Path of another one into each place.
func TestP1601Twice(t *testing.T) {
	for i := range api.MaxBook {
		for j := range api.MaxBook {
			l := many(api.MaxBook)
			l[i].Path = l[j].Path
			want := api.ErrTwice
			if i == j {
				want = api.OK
			}
			checks(t, l, want)
		}
	}
	// However new it is.
	checks(t, []book.Entry{at("/a", 1, 1), at("/a", 2, 2)}, api.ErrTwice)
}

func TestP1601Most(t *testing.T) {
	for n := range api.MaxBook + 3 {
		want := api.OK
		if n > api.MaxBook {
			want = api.ErrLong
		}
		checks(t, many(n), want)
	}
	checks(t, make([]book.Entry, api.MaxBook), api.ErrName)
	checks(t, make([]book.Entry, api.MaxBook+1), api.ErrLong)
}

// TestP1601Turn: of one entry the errors in their order, of several the first one's (P6).
func TestP1601Turn(t *testing.T) {
	checks(t, []book.Entry{at("/b", 1, 1), at("", -1, -1)}, api.ErrName)
	checks(t, []book.Entry{at("/b", 1, 1), at("/b", -1, 1)}, api.ErrArg)
	checks(t, []book.Entry{at("/b", 1, 1), at("/a", 1, -1)}, api.ErrArg)
	checks(t, []book.Entry{at("/b", -1, 1), at("/a", 1, 1), at("", 1, 1)}, api.ErrArg)
	checks(t, []book.Entry{at("/b", 1, 1), at("/a", 1, 1), at("", -1, 1)}, api.ErrTwice)
	checks(t, []book.Entry{at("/b", 1, 1), at("/a", 1, 1), at("/c", -1, 1)}, api.ErrTwice)
	checks(t, []book.Entry{at("b", 1, 1), at("/a", 1, 1)}, api.ErrName)
}
