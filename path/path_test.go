package path_test

import (
	"fmt"
	"reflect"
	"regexp"
	"slices"
	"strings"
	"testing"

	"canton/api"
	"canton/path"
)

const longest = "/abcdefgh/abcdefgh/abcdefgh/abcdefgh"

var names = regexp.MustCompile(`^(/[a-z][a-z0-9]{0,7})+$`)

// parse answers s as Parse must, by a second writing of the form.
func parse(s string) ([]string, api.Errno) {
	if s == "/" {
		return nil, api.OK
	}
	if !names.MatchString(s) {
		return nil, api.ErrForm
	}
	if strings.Count(s, "/") > 4 {
		return nil, api.ErrLong
	}
	return strings.Split(s, "/")[1:], api.OK
}

// holds wants of s all that is said of one path.
func holds(t *testing.T, s string) {
	t.Helper()
	want, err := parse(s)
	l, e := path.Parse(s)
	if e != err || !slices.Equal(l, want) {
		t.Errorf("P601: Parse(%.40q): %q, %v", s, l, e)
	}
	depth, parent, last, zones := -1, "", "", []string(nil)
	if err == api.OK {
		depth = len(want)
		if path.Text(want) != s {
			t.Errorf("P601: Text(%q): %q, not %q", want, path.Text(want), s)
		}
	}
	for n := range want {
		zones = append(zones, "/"+strings.Join(want[:n], "/"))
		parent, last = zones[n], want[n]
	}
	if got := path.Depth(s); got != depth {
		t.Errorf("P601: Depth(%.40q): %d, not %d", s, got, depth)
	}
	if got := path.Parent(s); got != parent {
		t.Errorf("P601: Parent(%.40q): %q, not %q", s, got, parent)
	}
	if got := path.Last(s); got != last {
		t.Errorf("P601: Last(%.40q): %q, not %q", s, got, last)
	}
	if got := path.Zones(s); !slices.Equal(got, zones) {
		t.Errorf("P601: Zones(%.40q): %q, not %q", s, got, zones)
	}
}

func parses(t *testing.T, want api.Errno, all ...string) {
	t.Helper()
	for _, s := range all {
		if l, e := path.Parse(s); e != want || e != api.OK && len(l) > 0 {
			t.Errorf("P601: Parse(%.40q): %q, %v, not %v", s, l, e, want)
		}
		holds(t, s)
	}
}

func TestP601OnePath(t *testing.T) {
	for _, c := range []struct{ s, parts, parent, last, zones string }{
		{"/", "[]", "", "", "[]"},
		{"/a", `["a"]`, "/", "a", `["/"]`},
		{"/lab", `["lab"]`, "/", "lab", `["/"]`},
		{"/lab/n1", `["lab" "n1"]`, "/lab", "n1", `["/" "/lab"]`},
		{"/a/a/a", `["a" "a" "a"]`, "/a/a", "a", `["/" "/a" "/a/a"]`},
		{"/a/b2/c/d", `["a" "b2" "c" "d"]`, "/a/b2/c", "d", `["/" "/a" "/a/b2" "/a/b2/c"]`},
		{longest, `["abcdefgh" "abcdefgh" "abcdefgh" "abcdefgh"]`, longest[:27], "abcdefgh", `["/" "/abcdefgh" "/abcdefgh/abcdefgh" "/abcdefgh/abcdefgh/abcdefgh"]`},
	} {
		l, e := path.Parse(c.s)
		if got := fmt.Sprintf("%q", l); got != c.parts || e != api.OK || path.Depth(c.s) != len(l) || path.Text(l) != c.s {
			t.Errorf("P601: %s: %s, %v; %d, %s", c.s, got, e, path.Depth(c.s), path.Text(l))
		}
		if got := fmt.Sprintf("%q", path.Zones(c.s)); path.Parent(c.s) != c.parent || path.Last(c.s) != c.last || got != c.zones {
			t.Errorf("P601: %s: %s, %s, %s", c.s, path.Parent(c.s), path.Last(c.s), got)
		}
		holds(t, c.s)
	}
}

func TestP601ParseRefuses(t *testing.T) {
	parses(t, api.ErrForm, "", "a", "a/b", "abc", "//", "///", "/a/", "/a//b", "//a", "a/", "/a/b/c/d/", "/a/b/c//d", " /a", "/a ", "/ ", "/ a", "/a /b", "/a\n", "\n/a", `\a`, "@/a")
	parses(t, api.ErrForm, "/*", "/**", "/a/*", "/a/**", "/a*", "/.", "/..", "/a/..", "/A", "/aB", "/1", "/1a", "/a/1", "/a/b/9c", "/a_b", "/a-b", "/é", "/aé", "/а", "/a٣", "/\xff", "/a\xff", "/a\x00", "\x00")
}

func TestP601ParseAtTheLimits(t *testing.T) {
	parses(t, api.OK, longest, "/a/abcdefgh", "/abcdefgh/a", "/a/b/c/abcdefgh", "/a/b/c/d")
	parses(t, api.ErrForm, "/abcdefghi", "/a/abcdefghi", "/abcdefghi/a", "/a/b/c/abcdefghi", longest+"i", "/"+strings.Repeat("a", 1<<20))
	parses(t, api.ErrLong, "/a/b/c/d/e", longest+"/a", longest+longest, "/a/b/c/d/e/f", strings.Repeat("/a", 1<<20))
}

// TestP601FormCountsFirst: a part that is none is told ahead of parts too many.
func TestP601FormCountsFirst(t *testing.T) {
	parses(t, api.ErrForm, "/a/b/c/d/E", "/a/b/c/d/e/", "/a/b/c/d//", "/a/b/c/d/e/F", "/A/b/c/d/e", "/a/b/c/d/e/abcdefghi", "a/b/c/d/e/f", "/a/b/c/d/e//f", "/a/b/c/d/e/f/g/h/i/j/*")
	parses(t, api.ErrForm, strings.Repeat("/a", 1<<20)+"/", strings.Repeat("/a", 1<<20)+"//a", strings.Repeat("/", 1<<20))
}

// TestP601EachByte lays each byte at each place of a path.
func TestP601EachByte(t *testing.T) {
	for c := range 256 {
		for _, s := range []string{"/", "/a", "/a/b", "/ab/c2/d", "/abcdefgh/b", "/a/b/c/d", "/a/b/c/d/e"} {
			for at := range len(s) {
				holds(t, s[:at]+string([]byte{byte(c)})+s[at+1:])
				holds(t, s[:at]+string([]byte{byte(c)})+s[at:])
			}
			holds(t, s+string([]byte{byte(c)}))
		}
	}
}

// short answers all texts of up to n of these bytes.
func short(n int, of string) []string {
	all := []string{""}
	for begin := 0; len(all[begin]) < n; begin++ {
		for _, c := range of {
			all = append(all, all[begin]+string(c))
		}
	}
	return all
}

func TestP601OfAllShortPaths(t *testing.T) {
	for _, s := range short(6, "/a9A*") {
		holds(t, s)
		holds(t, "/z/y"+s)
		holds(t, "/z/y/x/w"+s)
	}
	for _, n := range []int{1, 7, 8, 9} {
		for _, m := range []int{1, 7, 8, 9} {
			for parts := range 7 {
				s, one := strings.Repeat("/"+strings.Repeat("n", n), parts), "/"+strings.Repeat("m", m)
				holds(t, s)
				holds(t, s+one)
				holds(t, one+s)
			}
		}
	}
}

func TestP601Text(t *testing.T) {
	for _, l := range [][]string{nil, {}, some()[:0]} {
		if got := path.Text(l); got != "/" {
			t.Errorf("P601: Text of none: %q", got)
		}
	}
	if got := path.Text([]string{"a", "b2", "c", "abcdefgh"}); got != "/a/b2/c/abcdefgh" {
		t.Errorf("P601: Text: %q", got)
	}
}

func TestP601Join(t *testing.T) {
	for _, c := range []struct {
		s, part, want string
		err           api.Errno
	}{
		{"/", "a", "/a", api.OK}, {"/", "abcdefgh", "/abcdefgh", api.OK}, {"/a", "b", "/a/b", api.OK}, {"/a", "a", "/a/a", api.OK},
		{"/a/b", "c3", "/a/b/c3", api.OK}, {"/a/b/c", "d", "/a/b/c/d", api.OK}, {longest[:27], "abcdefgh", longest, api.OK},
		{"/a/b/c/d", "e", "", api.ErrLong}, {longest, "abcdefgh", "", api.ErrLong},
		// s, then part, then how many.
		{"", "a", "", api.ErrForm}, {"a", "b", "", api.ErrForm}, {"/a/", "b", "", api.ErrForm}, {"//", "b", "", api.ErrForm}, {"/A", "b", "", api.ErrForm}, {"/*", "b", "", api.ErrForm},
		{"", "", "", api.ErrForm}, {"/a/", "B", "", api.ErrForm}, {"/a/b/c/d/e", "f", "", api.ErrForm}, {"/a/b/c/d/e", "F", "", api.ErrForm}, {"/a/b/c/d/", "e", "", api.ErrForm},
		{"/a/b/c/d", "E", "", api.ErrName}, {"/a/b/c/d", "", "", api.ErrName}, {longest, "abcdefghi", "", api.ErrName},
	} {
		if got, e := path.Join(c.s, c.part); got != c.want || e != c.err {
			t.Errorf("P601: Join(%q, %q): %q, %v", c.s, c.part, got, e)
		}
	}
	for _, part := range []string{"", "A", "1", "abcdefghi", "a b", "/", "/a", "a/", "a/b", "*", "**", "é", "a\x00", "\xff", strings.Repeat("a", 1<<20)} {
		for _, s := range []string{"/", "/a", "/a/b/c"} {
			if got, e := path.Join(s, part); got != "" || e != api.ErrName {
				t.Errorf("P601: Join(%q, %.20q): %.20q, %v", s, part, got, e)
			}
		}
	}
}

// some are paths, and what looks like one, but is none.
func some() []string {
	return []string{
		"/", "/a", "/b", "/ab", "/abc", "/a1", "/a/a", "/a/b", "/b/a", "/ab/b", "/a/ab", "/a/bc", "/a/b/c", "/a/b/d", "/a/bc/c", "/b/b/c", "/a/b/c/d", "/a/b/c/e", "/a/b/d/d", "/b/b/c/d", "/a/b/c/de",
		longest, longest[:27], longest[:18], longest[:9], "/abcdefgh/abcdefgh/abcdefgh/abcdefg", "/abcdefgh/abcdefg",
		"", "a", "a/b", "//", "/a/", "/a//b", "/a/b/c/d/", "/a/b/c/d/e", "/a/b/c/D", "/A", "/*", "/**", "/a/*", "/abcdefghi", longest + "i", "/\xff", "/a\x00",
	}
}

func TestP601UnderAndCommon(t *testing.T) {
	for _, c := range []struct {
		s, zone string
		under   bool
		common  string
	}{
		{"/", "/", true, "/"}, {"/a", "/", true, "/"}, {"/a/b/c/d", "/", true, "/"}, {"/", "/a", false, "/"}, {"/a", "/b", false, "/"},
		{"/a", "/a", true, "/a"}, {"/a/b", "/a", true, "/a"}, {"/a", "/a/b", false, "/a"}, {"/a/b/c/d", "/a/b", true, "/a/b"},
		{"/ab", "/a", false, "/"}, {"/a", "/ab", false, "/"}, {"/ab/c", "/a", false, "/"}, {"/a/bc", "/a/b", false, "/a"}, {"/a/b", "/a/bc", false, "/a"}, {"/a/bc/d", "/a/b/d", false, "/a"},
		{"/a/b/c/d", "/a/b/c/e", false, "/a/b/c"}, {"/a/b/c/d", "/a/b/c/de", false, "/a/b/c"}, {"/a/b", "/b/b", false, "/"}, {"/a/x/c", "/a/y/c", false, "/a"},
		{longest, longest, true, longest}, {longest, longest[:27], true, longest[:27]}, {longest, longest[:35], false, longest[:27]},
		{"/a", "", false, ""}, {"", "", false, ""}, {"/", "", false, ""}, {"x", "/", false, ""}, {"/a/", "/a", false, ""}, {"/a/b/c/d/e", "/a", false, ""}, {"/a/b/c/d/e", "/a/b/c/d/e", false, ""}, {"/a/b/C", "/a", false, ""}, {"/a", "/*", false, ""}, {"/A", "/A", false, ""}, {"/a//b", "/a", false, ""},
	} {
		if got := path.Under(c.s, c.zone); got != c.under {
			t.Errorf("P601: Under(%q, %q): %v", c.s, c.zone, got)
		}
		if got, back := path.Common(c.s, c.zone), path.Common(c.zone, c.s); got != c.common || back != c.common {
			t.Errorf("P601: Common(%q, %q): %q, %q", c.s, c.zone, got, back)
		}
	}
}

// TestP601TwoPaths holds each pair against what is under each zone by its text.
func TestP601TwoPaths(t *testing.T) {
	within := func(s, zone string) bool {
		_, e := parse(s)
		_, f := parse(zone)
		return e == api.OK && f == api.OK && (zone == "/" || strings.HasPrefix(s+"/", zone+"/"))
	}
	for _, a := range some() {
		for _, b := range some() {
			if got := path.Under(a, b); got != within(a, b) {
				t.Errorf("P601: Under(%q, %q): %v", a, b, got)
			}
			deepest := ""
			for _, z := range some() {
				if within(a, z) && within(b, z) && len(z) > len(deepest) {
					deepest = z
				}
			}
			if got := path.Common(a, b); got != deepest {
				t.Errorf("P601: Common(%q, %q): %q, not %q", a, b, got, deepest)
			}
		}
	}
}

// TestP601Apart: what Parent and Last cut apart is joined again.
func TestP601Apart(t *testing.T) {
	for _, s := range some() {
		if path.Depth(s) < 1 {
			continue
		}
		up, last := path.Parent(s), path.Last(s)
		if got, e := path.Join(up, last); got != s || e != api.OK || !path.Under(s, up) || path.Under(up, s) || path.Common(s, up) != up {
			t.Errorf("P601: %q: %q, %q, %q, %v", s, up, last, got, e)
		}
		if l := path.Zones(s); l[len(l)-1] != up || len(l) != path.Depth(s) || l[0] != "/" {
			t.Errorf("P601: Zones(%q): %q", s, l)
		}
	}
}

func matches(t *testing.T, want bool, pattern string, all ...string) {
	t.Helper()
	form := takes(pattern)
	for _, s := range all {
		if path.Match(pattern, s) != want || form(s) != want {
			t.Errorf("P601: Match(%.40q, %.40q): %v; by the form: %v", pattern, s, path.Match(pattern, s), form(s))
		}
	}
}

// takes answers what Match of pattern must tell of a path, by a second writing of it.
func takes(pattern string) func(s string) bool {
	const name = `/[a-z][a-z0-9]{0,7}`
	if pattern == "/" {
		return func(s string) bool { return s == "/" }
	}
	if pattern == "" || !regexp.MustCompile(`^(`+name+`|/\*)*(/\*\*)?$`).MatchString(pattern) {
		return func(s string) bool { return false }
	}
	front, rest := strings.CutSuffix(pattern, "/**")
	text := strings.ReplaceAll(front, "/*", name)
	if rest {
		text += `(` + name + `)*`
	}
	form := regexp.MustCompile(`^` + text + `$`)
	return func(s string) bool {
		_, e := parse(s)
		return e == api.OK && form.MatchString(strings.TrimSuffix(s, "/"))
	}
}

func TestP601Match(t *testing.T) {
	matches(t, true, "/", "/")
	matches(t, false, "/", "/a", "/a/b", "/a/b/c/d", "", "a", "//")
	matches(t, true, "/a", "/a")
	matches(t, false, "/a", "/", "/b", "/ab", "/a/a", "/a/b", "/a/", "a", "")
	matches(t, true, "/a/b2/c/d", "/a/b2/c/d")
	matches(t, false, "/a/b2/c/d", "/a/b2/c", "/a/b2/c/e", "/b/b2/c/d", "/a/b/c/d", "/a/b2/c/d/e", "/", "/a/b2/c/d/")
	matches(t, true, "/*", "/a", "/abcdefgh", "/z9")
	matches(t, false, "/*", "/", "/a/b", "/*", "/**", "/A", "", "/abcdefghi")
	matches(t, true, "/a/*/c", "/a/b/c", "/a/a/c", "/a/c/c")
	matches(t, false, "/a/*/c", "/a/c", "/a/b/d", "/b/b/c", "/a/b/c/d", "/a/b/b/c", "/a//c", "/a/*/c")
	matches(t, true, "/*/b", "/a/b", "/b/b")
	matches(t, false, "/*/b", "/b", "/a/c", "/a/b/c")
	matches(t, true, "/*/*/*/*", "/a/b/c/d", longest)
	matches(t, false, "/*/*/*/*", "/a/b/c", "/", "/a/b/c/d/e")
}

func TestP601MatchAnyRest(t *testing.T) {
	matches(t, true, "/**", "/", "/a", "/a/b", "/a/b/c", "/a/b/c/d", longest)
	matches(t, false, "/**", "", "a", "//", "/a/", "/a/b/c/d/", "/a/b/c/d/e", "/A", "/**", "/*")
	matches(t, true, "/a/**", "/a", "/a/a", "/a/b/c/d")
	matches(t, false, "/a/**", "/", "/b", "/ab", "/b/a", "/a/", "/a/b/c/d/e")
	matches(t, true, "/*/**", "/a", "/x/y", "/a/b/c/d")
	matches(t, false, "/*/**", "/", "")
	matches(t, true, "/*/b/**", "/a/b", "/a/b/c")
	matches(t, false, "/*/b/**", "/b", "/a", "/a/c", "/a/c/b")
	matches(t, true, "/a/b/c/d/**", "/a/b/c/d")
	matches(t, false, "/a/b/c/d/**", "/a/b/c", "/a/b/c/e", "/a/b/c/d/e")
	matches(t, true, "/*/*/*/*/**", "/a/b/c/d")
	matches(t, false, "/*/*/*/*/**", "/a/b/c", "/")
}

// TestP601MatchOfLongPatterns: a pattern may have more parts than any path.
func TestP601MatchOfLongPatterns(t *testing.T) {
	for _, p := range []string{"/*/*/*/*/*", "/a/b/c/d/e", "/*/*/*/*/*/**", "/a/b/c/d/e/**", strings.Repeat("/*", 1<<10), strings.Repeat("/a", 1<<10) + "/**"} {
		matches(t, false, p, "/", "/a", "/a/b/c/d", "/a/a/a/a", "/a/b/c/d/e", "/a/b/c/d/e/f")
	}
}

func TestP601MatchOfNoPattern(t *testing.T) {
	for _, p := range []string{
		"", "a", "*", "**", "a/b", "//", "/a/", "/*/", "/**/", "//a", "/a//b", "//**", "/a//**", "/**/a", "/**/*", "/**/**", "/a/**/b", "/**/b/**", "/***", "/a/***", "/a*", "/*a", "/a/b*", "/**a", "/a**",
		"/A", "/a/B", "/1", "/abcdefghi", "/a ", " /a", "/ ", "/?", "/.", "/\xff", "/a\x00", "/é", "/[a-z]", "/a|/b", "/a/b/c/d/", "/a/b/c/d/E", "/*/*/*/*/***",
	} {
		matches(t, false, p, "/", "/a", "/b", "/ab", "/a/a", "/a/b", "/a/a/b", "/a/b/c", "/a/b/c/d", p, "", "/a/b/c/d/e")
	}
}

// TestP601MatchOfAllShort holds all short patterns against all short paths.
func TestP601MatchOfAllShort(t *testing.T) {
	paths := append(short(4, "/ab"), "/a/b/a", "/a/b/c/a", "/a/b/c/d/a", "/a/b/c/d", "/*", "/**", "/a/**")
	for _, p := range short(7, "/a*") {
		form := takes(p)
		for _, s := range paths {
			if got := path.Match(p, s); got != form(s) {
				t.Errorf("P601: Match(%q, %q): %v", p, s, got)
			}
		}
	}
}

func TestP2AnswersAreNewMemory(t *testing.T) {
	spoil := func(l []string) {
		for i := range l[:cap(l)] {
			l[:cap(l)][i] = "spoilt"
		}
	}
	for _, f := range []func() []string{
		func() []string { l, _ := path.Parse("/a/b/c"); return l },
		func() []string { return path.Zones("/a/b/c") },
		func() []string { l, _ := path.Parse("/"); return l },
		func() []string { return path.Zones("/") },
	} {
		a, b := f(), f()
		was := slices.Clone(b)
		spoil(a)
		if !slices.Equal(b, was) || !slices.Equal(f(), was) {
			t.Errorf("P2: two answers share: %q", b)
		}
	}
}

func TestP2TextLeavesWhatIsHandedIn(t *testing.T) {
	all := []string{"a", "b", "c", "d"}
	if got := path.Text(all[:2]); got != "/a/b" || !slices.Equal(all, []string{"a", "b", "c", "d"}) {
		t.Errorf("P2: %q, %q", got, all)
	}
}

// TestP1AnyData: whatever it is given, each call ends, and answers the same again (P3).
func TestP1AnyData(t *testing.T) {
	odd := append(some(), "\x00", "\xff/", "/\x80", "é/é", "/*/", strings.Repeat("/", 1<<16), strings.Repeat("*", 1<<16), strings.Repeat("/**", 1<<16), strings.Repeat("/a", 1<<16), "/"+strings.Repeat("a", 1<<16), "/"+strings.Repeat("\xff", 1<<16))
	answers := func(a, b string) []any {
		l, e := path.Parse(a)
		j, f := path.Join(a, b)
		return []any{l, e, path.Depth(a), path.Parent(a), path.Last(a), j, f, path.Under(a, b), path.Common(a, b), path.Zones(a), path.Match(a, b)}
	}
	for _, a := range odd {
		for _, b := range odd {
			if !reflect.DeepEqual(answers(a, b), answers(a, b)) {
				t.Errorf("P3: of %.20q, %.20q", a, b)
			}
		}
	}
	for _, l := range [][]string{{""}, {"", ""}, {"/"}, {"A", "*"}, {"a", "b", "c", "d", "e"}, make([]string, 1<<16), odd} {
		if path.Text(l) != path.Text(l) {
			t.Errorf("P3: of %.20q", l)
		}
	}
}
