package lex_test

import (
	"fmt"
	"math/big"
	"math/rand"
	"reflect"
	"regexp"
	"slices"
	"strings"
	"testing"

	"canton/api"
	"canton/lex"
)

const most = "9223372036854775807"

var begins = regexp.MustCompile(`^(?:([a-z][a-z0-9]*)|([0-9]+)([a-z]?)|(!=|<=|>=|[(),=<>+*/%-]))`)

// tokens answers s as Tokens must, by a second writing of the form.
func tokens(s string) ([]lex.Token, int, api.Errno) {
	if len(s) > 1024 {
		return nil, 0, api.ErrLong
	}
	var l []lex.Token
	for at := 0; at < len(s); {
		if s[at] == 0x20 {
			at++
			continue
		}
		t, e := one(begins.FindStringSubmatch(s[at:]))
		if e != api.OK {
			return nil, at, e
		}
		t.At = at
		l = append(l, t)
		at += len(t.Text)
	}
	return l, 0, api.OK
}

// one answers the token of what the form found: a name, digits and the letter behind them, a sign.
func one(m []string) (lex.Token, api.Errno) {
	if m == nil {
		return lex.Token{}, api.ErrForm
	}
	if m[1] != "" {
		if len(m[1]) > 8 {
			return lex.Token{}, api.ErrName
		}
		return lex.Token{Kind: 1, Text: m[1]}, api.OK
	}
	if m[2] == "" {
		return lex.Token{Kind: 3, Text: m[4]}, api.OK
	}
	if m[3] != "" || m[2] != "0" && m[2][0] == '0' {
		return lex.Token{}, api.ErrForm
	}
	n, _ := new(big.Int).SetString(m[2], 10)
	if !n.IsInt64() {
		return lex.Token{}, api.ErrArg
	}
	return lex.Token{Kind: 2, Text: m[2], N: n.Int64()}, api.OK
}

// holds wants of s what the second writing answers; and, where s is taken, that Text goes back.
func holds(t *testing.T, s string) {
	t.Helper()
	want, place, err := tokens(s)
	l, at, e := lex.Tokens(s)
	if e != err || at != place || !slices.Equal(l, want) {
		t.Errorf("P801: Tokens(%.60q): %v, %d, %v; not %v, %d, %v", s, l, at, e, want, place, err)
	}
	words := make([]string, len(want))
	for i, w := range want {
		words[i] = w.Text
	}
	text := strings.Join(words, " ")
	if got := lex.Text(want); got != text {
		t.Errorf("P801: Text(%v): %.60q, not %.60q", want, got, text)
	}
	if back, _, e := lex.Tokens(text); len(text) <= 1024 && (e != api.OK || !slices.EqualFunc(back, want, alike)) {
		t.Errorf("P801: Tokens(%.60q) of a Text: %v, %v", text, back, e)
	}
}

// alike: in all but the place.
func alike(a, b lex.Token) bool {
	a.At, b.At = 0, 0
	return a == b
}

func takes(t *testing.T, s, want string) {
	t.Helper()
	l, at, e := lex.Tokens(s)
	if got := fmt.Sprint(l); got != want || at != 0 || e != api.OK {
		t.Errorf("P801: Tokens(%.60q): %s, %d, %v", s, got, at, e)
	}
	holds(t, s)
}

func refuses(t *testing.T, want api.Errno, place int, all ...string) {
	t.Helper()
	for _, s := range all {
		if l, at, e := lex.Tokens(s); len(l) != 0 || at != place || e != want {
			t.Errorf("P801: Tokens(%.60q): %v, %d, %v; not %d, %v", s, l, at, e, place, want)
		}
		holds(t, s)
	}
}

func TestP801Kinds(t *testing.T) {
	if lex.Name != 1 || lex.Num != 2 || lex.Sign != 3 {
		t.Errorf("P801: %d, %d, %d", lex.Name, lex.Num, lex.Sign)
	}
}

func TestP801Blanks(t *testing.T) {
	takes(t, "", "[]")
	takes(t, " ", "[]")
	takes(t, strings.Repeat(" ", 1024), "[]")
	takes(t, "a", "[{1 a 0 0}]")
	takes(t, "  a  ", "[{1 a 0 2}]")
	takes(t, "a b", "[{1 a 0 0} {1 b 0 2}]")
	takes(t, "a   1", "[{1 a 0 0} {2 1 1 4}]")
	takes(t, "1 2", "[{2 1 1 0} {2 2 2 2}]")
	takes(t, "1 a", "[{2 1 1 0} {1 a 0 2}]")
	takes(t, "< =", "[{3 < 0 0} {3 = 0 2}]")
	refuses(t, api.ErrForm, 1, "a\t", "a\n", "a\r\n", "a\v", "a\f", "a\x00", "a\u00a0b", "a\u2003", "a\x85")
	refuses(t, api.ErrForm, 0, "\t", "\n", "\r", "\v", "\f", "\u00a0", "\u2028", "\ufeffa")
	refuses(t, api.ErrForm, 1, " \t", " \n ", "a\ta")
}

func TestP801Names(t *testing.T) {
	takes(t, "abcdefgh", "[{1 abcdefgh 0 0}]")
	takes(t, "a0123456", "[{1 a0123456 0 0}]")
	takes(t, "a00", "[{1 a00 0 0}]")
	takes(t, "z", "[{1 z 0 0}]")
	takes(t, "a1b2+c", "[{1 a1b2 0 0} {3 + 0 4} {1 c 0 5}]")
	takes(t, "and not", "[{1 and 0 0} {1 not 0 4}]")
	refuses(t, api.ErrForm, 0, "A", "A1", "_a", ".a", "é", "λ", "\xe9", "ａ")
	refuses(t, api.ErrForm, 1, "aB", "a_b", "a.b", "aé", "a`", "a{", "a@", "a[", "a:", "a\xff", "a٣")
	refuses(t, api.ErrForm, 8, "abcdefghI", "abcdefgh_")
}

func TestP801NameLimit(t *testing.T) {
	refuses(t, api.ErrName, 0, "abcdefghi", "a12345678", "abcdefgh0", strings.Repeat("a", 1024), "abcdefghi a", "abcdefghi(")
	refuses(t, api.ErrName, 2, "a abcdefghi", "1 abcdefghi", "<=abcdefghi", "  a12345678")
	takes(t, "abcdefgh abcdefgh", "[{1 abcdefgh 0 0} {1 abcdefgh 0 9}]")
	takes(t, "abcdefgh,i", "[{1 abcdefgh 0 0} {3 , 0 8} {1 i 0 9}]")
}

func TestP801Numbers(t *testing.T) {
	takes(t, "0", "[{2 0 0 0}]")
	takes(t, "7", "[{2 7 7 0}]")
	takes(t, "10", "[{2 10 10 0}]")
	takes(t, "100", "[{2 100 100 0}]")
	takes(t, "0 0", "[{2 0 0 0} {2 0 0 2}]")
	takes(t, "0+0", "[{2 0 0 0} {3 + 0 1} {2 0 0 2}]")
	takes(t, "-0", "[{3 - 0 0} {2 0 0 1}]")
	takes(t, "-12", "[{3 - 0 0} {2 12 12 1}]")
	takes(t, "(3)", "[{3 ( 0 0} {2 3 3 1} {3 ) 0 2}]")
	refuses(t, api.ErrForm, 0, "00", "01", "007", "0000000000000000000000000000", "00a", "01a", "0a", "0x1", "1e3", "12a", "9z", "1a1", "00000000000000000000a")
	refuses(t, api.ErrForm, 2, "x 01", "x 00", "x 1a", "1 2b", "a+0b", "(,00")
	refuses(t, api.ErrForm, 1, "1.5", "1_000", "1A", "0X1", "1é", "1\t", "1!", "1٣")
	refuses(t, api.ErrForm, 0, "٣", "３", "²")
}

func TestP801NumberLimit(t *testing.T) {
	takes(t, most, "[{2 "+most+" "+most+" 0}]")
	takes(t, "9223372036854775806", "[{2 9223372036854775806 9223372036854775806 0}]")
	takes(t, "-"+most+")", "[{3 - 0 0} {2 "+most+" "+most+" 1} {3 ) 0 20}]")
	refuses(t, api.ErrArg, 0, "9223372036854775808", "9223372036854775809", "9999999999999999999", "10000000000000000000", "18446744073709551615", "18446744073709551616", "18446744073709551617", "92233720368547758070", "99999999999999999999", strings.Repeat("9", 1024), "1"+strings.Repeat("0", 1023))
	refuses(t, api.ErrArg, 1, " 9223372036854775808", "-9223372036854775808", "(99999999999999999999)")
	// What is of no form counts ahead of what is too much.
	refuses(t, api.ErrForm, 0, "9223372036854775808a", "99999999999999999999a", "09223372036854775808", "0"+strings.Repeat("9", 1023), strings.Repeat("9", 1023)+"a")
}

func TestP801Signs(t *testing.T) {
	for _, s := range []string{"(", ")", ",", "=", "!=", "<", "<=", ">", ">=", "+", "-", "*", "/", "%"} {
		takes(t, s, "[{3 "+s+" 0 0}]")
		takes(t, " "+s+" ", "[{3 "+s+" 0 1}]")
		takes(t, "a"+s+"1", fmt.Sprintf("[{1 a 0 0} {3 %s 0 1} {2 1 1 %d}]", s, 1+len(s)))
		takes(t, s+s, fmt.Sprintf("[{3 %s 0 0} {3 %s 0 %d}]", s, s, len(s)))
	}
	refuses(t, api.ErrForm, 0, "!", "! =", "!!=", "!<", "&", "|", "^", "~", "#", "$", "?", ":", ";", ".", "[", "]", "{", "}", "\"", "'", "`", "\\", "@", "_", "\x7f", "\x1f", "\x00", "\xff")
	refuses(t, api.ErrForm, 2, "a ! b", "a !", "==!", "!=!", "<=!")
}

func TestP801LongestSign(t *testing.T) {
	takes(t, "<==", "[{3 <= 0 0} {3 = 0 2}]")
	takes(t, ">==", "[{3 >= 0 0} {3 = 0 2}]")
	takes(t, "!==", "[{3 != 0 0} {3 = 0 2}]")
	takes(t, "==", "[{3 = 0 0} {3 = 0 1}]")
	takes(t, "=<", "[{3 = 0 0} {3 < 0 1}]")
	takes(t, "=>", "[{3 = 0 0} {3 > 0 1}]")
	takes(t, "<>", "[{3 < 0 0} {3 > 0 1}]")
	takes(t, "<>=", "[{3 < 0 0} {3 >= 0 1}]")
	takes(t, "<<=", "[{3 < 0 0} {3 <= 0 1}]")
	takes(t, "=!=", "[{3 = 0 0} {3 != 0 1}]")
	takes(t, ">!=", "[{3 > 0 0} {3 != 0 1}]")
	takes(t, "+=-=", "[{3 + 0 0} {3 = 0 1} {3 - 0 2} {3 = 0 3}]")
}

func TestP801LengthLimit(t *testing.T) {
	for _, s := range []string{"(", "a ", "1+", "abc "} {
		full := strings.Repeat(s, 1024)[:1024]
		if _, at, e := lex.Tokens(full); at != 0 || e != api.OK {
			t.Errorf("P801: Tokens(%.20q), 1024 bytes: %d, %v", s, at, e)
		}
		holds(t, full)
		refuses(t, api.ErrLong, 0, full+" ", full+"a", full+full)
	}
	refuses(t, api.ErrForm, 1023, strings.Repeat(" ", 1023)+"!")
	refuses(t, api.ErrForm, 1022, strings.Repeat(" ", 1022)+"1a")
	// Ahead of all.
	refuses(t, api.ErrLong, 0, strings.Repeat(" ", 1025), strings.Repeat(" ", 1024)+"!", strings.Repeat("!", 1025), strings.Repeat("0", 1025), strings.Repeat("9", 1025), strings.Repeat("a", 1025), "!"+strings.Repeat(" ", 1024), strings.Repeat("é", 513), strings.Repeat("a", 1<<20))
}

// TestP6FirstTokenCounts: of the tokens the first that has an error tells it.
func TestP6FirstTokenCounts(t *testing.T) {
	refuses(t, api.ErrName, 0, "abcdefghi !", "abcdefghi 01", "abcdefghi 9223372036854775808", "abcdefghi!", "abcdefghiB")
	refuses(t, api.ErrArg, 0, "9223372036854775808 !", "9223372036854775808 01", "9223372036854775808 abcdefghi", "9223372036854775808!", "9223372036854775808B")
	refuses(t, api.ErrForm, 0, "! abcdefghi", "!9223372036854775808", "01 9223372036854775808", "1a abcdefghi", "1abcdefghi")
	refuses(t, api.ErrForm, 2, "a !9223372036854775808", "a 00 abcdefghi", "a 0a !")
}

func TestP801Text(t *testing.T) {
	for _, l := range [][]lex.Token{nil, {}, make([]lex.Token, 0, 4)} {
		if got := lex.Text(l); got != "" {
			t.Errorf("P801: Text of none: %q", got)
		}
	}
	for _, c := range []struct{ s, want string }{
		{"", ""}, {"   ", ""}, {"a", "a"}, {" a ", "a"}, {"a   b", "a b"}, {"a<=1+ ( b)", "a <= 1 + ( b )"}, {"-1", "- 1"}, {"<>=", "< >="}, {"sum(x)*" + most, "sum ( x ) * " + most},
	} {
		l, _, e := lex.Tokens(c.s)
		if got := lex.Text(l); got != c.want || e != api.OK {
			t.Errorf("P801: Text of %q: %q, %v", c.s, got, e)
		}
	}
	long, _, _ := lex.Tokens(strings.Repeat("(", 1024))
	if got := lex.Text(long); got != strings.Repeat("( ", 1023)+"(" {
		t.Errorf("P801: Text of 1024 tokens: %d bytes", len(got))
	}
}

// TestP801TextAloneCounts: of a token Text tells the Text, whatever else it has.
func TestP801TextAloneCounts(t *testing.T) {
	l := []lex.Token{{Kind: lex.Num, Text: "7", N: 8, At: 40}, {Kind: lex.Name, Text: "a", At: 3}, {Kind: 9, Text: "X\n"}, {}, {Kind: lex.Sign}, {Text: "é"}}
	if got := lex.Text(l); got != "7 a X\n   é" {
		t.Errorf("P801: Text: %q", got)
	}
}

// TestP801EachByte lays each byte at each place of a text.
func TestP801EachByte(t *testing.T) {
	for c := range 256 {
		b := string([]byte{byte(c)})
		for _, s := range []string{"", " ", "a", "1", "0", "a1 <= 20", "!=", "<>=", "abcdefgh", most, "( x + 1 ) * y2, 0"} {
			for at := range len(s) {
				holds(t, s[:at]+b+s[at+1:])
				holds(t, s[:at]+b+s[at:])
			}
			holds(t, s+b)
		}
		for d := range 256 {
			holds(t, string([]byte{byte(c), byte(d)}))
		}
	}
}

// TestP801OfAllShortTexts holds all texts of a few bytes of each sort.
func TestP801OfAllShortTexts(t *testing.T) {
	all := []string{""}
	for begin := 0; len(all[begin]) < 6; begin++ {
		for _, c := range "a01 <=!" {
			all = append(all, all[begin]+string(c))
		}
	}
	for _, s := range all {
		holds(t, s)
	}
}

// TestP801OfManyTexts holds texts put together from words of each sort, right ones most often.
func TestP801OfManyTexts(t *testing.T) {
	r := rand.New(rand.NewSource(8))
	words := []string{"a", "sum", "x1", "abcdefgh", "0", "7", "120", most, "(", ")", ",", "=", "!=", "<", "<=", ">", ">=", "+", "-", "*", "/", "%", " ", "  "}
	wrong := []string{"abcdefghi", "9223372036854775808", "01", "2b", "!", "A", "\t", "é"}
	for range 20000 {
		var s strings.Builder
		for range r.Intn(12) {
			if r.Intn(20) == 0 {
				s.WriteString(wrong[r.Intn(len(wrong))])
			} else {
				s.WriteString(words[r.Intn(len(words))])
			}
			s.WriteString(strings.Repeat(" ", r.Intn(3)))
		}
		holds(t, s.String())
	}
}

func TestP2AnswersAreNewMemory(t *testing.T) {
	for _, s := range []string{"a <= 1", "a", ""} {
		l, _, _ := lex.Tokens(s)
		m, _, _ := lex.Tokens(s)
		was := slices.Clone(m)
		for i := range l[:cap(l)] {
			l[:cap(l)][i] = lex.Token{Kind: 9, Text: "spoilt", N: 9, At: 9}
		}
		if n, _, _ := lex.Tokens(s); !slices.Equal(m, was) || !slices.Equal(n, was) {
			t.Errorf("P2: of %q: two answers share: %v, %v", s, m, n)
		}
	}
}

func TestP2TextLeavesWhatIsHandedIn(t *testing.T) {
	all := []lex.Token{{Kind: 1, Text: "a"}, {Kind: 3, Text: "<=", At: 1}, {Kind: 2, Text: "1", N: 1, At: 3}, {Kind: 1, Text: "b", At: 4}}
	was := slices.Clone(all)
	if got := lex.Text(all[:2]); got != "a <=" || !slices.Equal(all, was) {
		t.Errorf("P2: %q, %v", got, all)
	}
}

// TestP1AnyData: whatever it is given, each call ends, and answers the same again (P3).
func TestP1AnyData(t *testing.T) {
	r := rand.New(rand.NewSource(1))
	for n := range 1100 {
		b := make([]byte, n)
		for i := range b {
			b[i] = byte(r.Intn(256))
		}
		holds(t, string(b))
		l, at, e := lex.Tokens(string(b))
		if m, place, err := lex.Tokens(string(b)); !reflect.DeepEqual(l, m) || at != place || e != err {
			t.Errorf("P3: of %.20q", b)
		}
	}
	odd := make([]lex.Token, 1<<16)
	if got := lex.Text(odd); got != strings.Repeat(" ", len(odd)-1) || lex.Text(odd) != got {
		t.Errorf("P1: Text of empty tokens: %d bytes", len(got))
	}
}
