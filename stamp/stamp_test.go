package stamp_test

import (
	"math"
	"regexp"
	"slices"
	"strings"
	"testing"

	"canton/api"
	"canton/stamp"
)

// of answers a stamp of these fields.
func of(tick, inc, seq int64, origin string) stamp.Stamp {
	return stamp.Stamp{Tick: tick, Inc: inc, Seq: seq, Origin: origin}
}

func checks(t *testing.T, want api.Errno, all ...stamp.Stamp) {
	t.Helper()
	for _, s := range all {
		if got := stamp.Check(s); got != want {
			t.Errorf("P301: Check(%#v): %v, not %v", s, got, want)
		}
	}
}

// origins tells of each of all what Check says of a stamp of that Origin.
func origins(t *testing.T, want api.Errno, all ...string) {
	t.Helper()
	for _, s := range all {
		checks(t, want, of(1, 2, 3, s))
	}
}

func TestP301CheckNumbers(t *testing.T) {
	const most = 1000000000
	for _, n := range []int64{0, 1, 7, most - 1, most} {
		checks(t, api.OK, of(n, 0, 0, "/a"), of(0, n, 0, "/a"), of(0, 0, n, "/a"), of(n, n, n, "/a"))
	}
	// 1<<32 and its like would be small numbers if 32 bits were all that is looked at.
	for _, n := range []int64{-1, -2, -most, most + 1, 1 << 31, 1 << 32, 1<<32 + 1, 1 << 62, math.MaxInt64, math.MinInt64, math.MinInt64 + 1} {
		checks(t, api.ErrArg, of(n, 0, 0, "/a"), of(0, n, 0, "/a"), of(0, 0, n, "/a"), of(n, n, n, "/a"), of(most, most, n, "/a"))
	}
}

func TestP301CheckArgComesFirst(t *testing.T) {
	for _, origin := range []string{"", "/", "a", "/A", "/a/b/c/d/e", "\xff"} {
		checks(t, api.ErrArg, of(-1, 0, 0, origin), of(0, -1, 0, origin), of(0, 0, -1, origin), of(1000000001, 0, 0, origin))
		checks(t, api.ErrName, of(0, 0, 0, origin), of(1000000000, 1000000000, 1000000000, origin))
	}
	checks(t, api.ErrName, stamp.Stamp{})
}

func TestP301CheckOrigin(t *testing.T) {
	origins(t, api.OK, "/a", "/z", "/a0", "/z9", "/a/b1", "/a/a/a", "/a/b/c/d", "/abcdefgh", "/abcdefgh/a", "/a/b2345678", "/abcdefgh/abcdefgh/abcdefgh/abcdefgh")
	origins(t, api.ErrName, "", "/", "//", "a", "a/b", "abc", "/a/", "/a//b", "//a", "a/", "/a/b/c/d/", " /a", "/a ", "/ a", "/a /b", "/a\n", "/a/*", "/*", "/**", "/.", "/a/..", "@/a", `\a`)
	origins(t, api.ErrName, "/A", "/aB", "/1", "/1a", "/a/1", "/a/b/9c", "/a_b", "/a-b", "/a.b", "/é", "/aé", "/а", "/a٣", "/\xff", "/a\xff", "/a\x00", "\x00")
}

func TestP301CheckOriginAtTheLimits(t *testing.T) {
	origins(t, api.ErrName, "/abcdefghi", "/a/abcdefghi", "/abcdefghi/a", "/abcdefgh1", "/abcdefgh_", "/abcdefghijklmnop", "/abcdefgh/abcdefghi")
	origins(t, api.ErrName, "/a/b/c/d/e", "/a/b/c/d/e/f", "/a/b/c/d/E", "/a/b/c/d/e/", "/a/b/c/d//", "/abcdefgh/abcdefgh/abcdefgh/abcdefgh/a")
	origins(t, api.ErrName, strings.Repeat("/a", 1<<20), strings.Repeat("/", 1<<20), "/"+strings.Repeat("a", 1<<20))
}

// TestP301CheckEachByte lays each byte at each place of an Origin.
func TestP301CheckEachByte(t *testing.T) {
	for c := range 256 {
		b := string([]byte{byte(c)})
		letter := c >= 'a' && c <= 'z'
		name := letter || c >= '0' && c <= '9'
		for s, ok := range map[string]bool{
			b: false, b + "a": c == '/', b + "a/b": c == '/',
			"/" + b: letter, "/" + b + "a": letter, "/a/" + b: letter, "/" + b + "/a": letter,
			"/a" + b: name, "/a" + b + "b": name || c == '/', "/a/b" + b: name, "/abcdefg" + b: name,
			"/abcdefgh" + b: false, "/abcdefgh" + b + "a": c == '/', "/a/b/c/d" + b: name, "/a/b/c/d" + b + "e": name,
		} {
			want := api.OK
			if !ok {
				want = api.ErrName
			}
			origins(t, want, s)
		}
	}
}

// TestP301CheckOfAllShortOrigins holds Check against the form, written down again.
func TestP301CheckOfAllShortOrigins(t *testing.T) {
	form := regexp.MustCompile(`^(/[a-z][a-z0-9]{0,7}){1,4}$`)
	hold := func(s string) {
		want := api.ErrName
		if form.MatchString(s) {
			want = api.OK
		}
		origins(t, want, s)
	}
	all := []string{""}
	for begin := 0; len(all[begin]) < 6; begin++ {
		for _, c := range "/a9A*" {
			all = append(all, all[begin]+string(c))
		}
	}
	for _, s := range all {
		hold(s)
		hold("/z" + s)
	}
	for _, a := range []int{1, 2, 7, 8, 9} {
		for _, b := range []int{1, 7, 8, 9} {
			for n := range 7 {
				s := strings.Repeat("/"+strings.Repeat("n", a), n)
				hold(s)
				hold(s + "/" + strings.Repeat("m", b))
				hold("/" + strings.Repeat("m", b) + s)
			}
		}
	}
}

// inOrder are stamps of which each is newer than the one ahead.
func inOrder() []stamp.Stamp {
	return []stamp.Stamp{
		of(math.MinInt64, math.MaxInt64, math.MaxInt64, "/z"),
		of(-1, 9, 9, "/z"),
		of(0, math.MinInt64, 0, ""), of(0, -1, math.MaxInt64, "/z"),
		of(0, 0, math.MinInt64, "/z"), of(0, 0, -1, "/z"),
		{}, of(0, 0, 0, "\x00"), of(0, 0, 0, "/"), of(0, 0, 0, "/B"), of(0, 0, 0, "/a"), of(0, 0, 0, "/a\x00"),
		of(0, 0, 0, "/a/b"), of(0, 0, 0, "/a1"), of(0, 0, 0, "/aa"), of(0, 0, 0, "/b"), of(0, 0, 0, "a"), of(0, 0, 0, "é"), of(0, 0, 0, "\xff"),
		of(0, 0, 1, ""), of(0, 0, 1, "/a"), of(0, 0, 9, "/z"), of(0, 0, 10, "/a"), of(0, 0, 1<<32, "/a"), of(0, 0, math.MaxInt64, "/z"),
		of(0, 1, 0, "/a"), of(0, 1, 5, "/b"), of(0, 1, 6, "/a"), of(0, 9, 0, "/a"), of(0, 10, 0, "/a"), of(0, 1<<32, 0, ""), of(0, math.MaxInt64, 0, ""),
		of(1, 0, 0, "/a"), of(1, 0, 9, "/a"), of(1, 1, 0, "/a"), of(2, 0, 0, ""), of(10, 0, 0, ""), of(1<<32, 0, 0, ""), of(math.MaxInt64, math.MinInt64, math.MinInt64, ""),
	}
}

func TestP301CompareAndNewer(t *testing.T) {
	all := inOrder()
	for i, a := range all {
		for k, b := range all {
			want := min(max(i-k, -1), 1)
			if got := stamp.Compare(a, b); got != want {
				t.Errorf("P301: Compare(%#v, %#v): %d, not %d", a, b, got, want)
			}
			if got := stamp.Newer(a, b); got != (i > k) {
				t.Errorf("P301: Newer(%#v, %#v): %v", a, b, got)
			}
		}
	}
}

// TestP301TheFirstThatDiffersCounts goes over all stamps of few numbers and names.
func TestP301TheFirstThatDiffersCounts(t *testing.T) {
	var all []stamp.Stamp
	for tick := range int64(3) {
		for inc := range int64(3) {
			for seq := range int64(3) {
				for _, origin := range []string{"/a", "/a/a", "/b"} {
					all = append(all, of(tick, inc, seq, origin))
				}
			}
		}
	}
	for i, a := range all {
		for k, b := range all {
			if got, want := stamp.Compare(a, b), min(max(i-k, -1), 1); got != want || stamp.Newer(a, b) != (want == 1) {
				t.Errorf("P301: Compare(%#v, %#v): %d, not %d; Newer: %v", a, b, got, want, stamp.Newer(a, b))
			}
		}
	}
}

func TestP301AlikeWithoutSharing(t *testing.T) {
	a, b := of(1, 2, 3, strings.Repeat("/ab", 4)), of(1, 2, 3, strings.Repeat("/ab/ab", 2))
	if stamp.Compare(a, b) != 0 || stamp.Newer(a, b) || stamp.Newer(b, a) {
		t.Errorf("P301: %#v, %#v", a, b)
	}
}

func TestP301Text(t *testing.T) {
	for _, c := range []struct {
		s    stamp.Stamp
		want string
	}{
		{of(1, 2, 3, "/a/b1"), "1.2.3@/a/b1"}, {of(0, 0, 0, "/a"), "0.0.0@/a"}, {of(10, 200, 3000, "/abcdefgh"), "10.200.3000@/abcdefgh"},
		{of(1000000000, 1000000000, 1000000000, "/a/b/c/d"), "1000000000.1000000000.1000000000@/a/b/c/d"},
		// What Check refuses is told as it is.
		{stamp.Stamp{}, "0.0.0@"}, {of(-1, 0, 0, ""), "-1.0.0@"}, {of(0, -2, -3, "/"), "0.-2.-3@/"}, {of(1, 2, 3, "@\x00é\xff"), "1.2.3@@\x00é\xff"},
		{of(math.MinInt64, math.MaxInt64, math.MinInt64, "a"), "-9223372036854775808.9223372036854775807.-9223372036854775808@a"},
	} {
		if got := stamp.Text(c.s); got != c.want {
			t.Errorf("P301: Text(%#v): %q, not %q", c.s, got, c.want)
		}
	}
}

// TestP301TextTellsApart: Text tells stamps apart just as Compare does.
func TestP301TextTellsApart(t *testing.T) {
	for _, a := range inOrder() {
		for _, b := range inOrder() {
			if (stamp.Text(a) == stamp.Text(b)) != (stamp.Compare(a, b) == 0) {
				t.Errorf("P301: Text of %#v, %#v", a, b)
			}
		}
	}
}

// TestP1AnyData: whatever it is given, each call ends, and answers the same again (P3).
func TestP1AnyData(t *testing.T) {
	all := append(inOrder(), of(math.MinInt64, 0, 0, strings.Repeat("/", 1<<20)), of(0, 0, 0, strings.Repeat("a", 1<<20)))
	for i, a := range all {
		if stamp.Check(a) != stamp.Check(a) || stamp.Text(a) != stamp.Text(a) {
			t.Errorf("P3: of stamp %d", i)
		}
		for k, b := range all {
			if stamp.Compare(a, b) != -stamp.Compare(b, a) || stamp.Newer(a, b) && stamp.Newer(b, a) {
				t.Errorf("P301: of stamps %d, %d", i, k)
			}
		}
	}
}

func TestP301CompareSorts(t *testing.T) {
	all := inOrder()
	slices.Reverse(all)
	slices.SortFunc(all, stamp.Compare)
	if !slices.Equal(all, inOrder()) {
		t.Errorf("P301: sorted: %#v", all)
	}
}
