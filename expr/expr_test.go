package expr_test

import (
	"fmt"
	"go/ast"
	"go/parser"
	"math/rand"
	"reflect"
	"slices"
	"strconv"
	"strings"
	"testing"

	"canton/api"
	"canton/expr"
	"canton/lex"
)

const most = "9223372036854775807"

func num(n int64) expr.Node { return expr.Node{Op: "num", N: n} }

func name(s string) expr.Node { return expr.Node{Op: "name", Name: s} }

func neg(a expr.Node) expr.Node { return expr.Node{Op: "neg", Kids: []expr.Node{a}} }

func two(a expr.Node, op string, b expr.Node) expr.Node {
	return expr.Node{Op: op, Kids: []expr.Node{a, b}}
}

// negs answers n with so many negs around it.
func negs(many int, n expr.Node) expr.Node {
	for range many {
		n = neg(n)
	}
	return n
}

// grammar is a second writing of what Of reads: a call for each sum, product and
// factor, that ends by a panic of a fault.
type grammar struct {
	l     []lex.Token
	at    int
	nodes int
}

type fault struct {
	at int
	e  api.Errno
}

func (g *grammar) is(texts ...string) bool {
	return g.at < len(g.l) && g.l[g.at].Kind == 3 && slices.Contains(texts, g.l[g.at].Text)
}

func (g *grammar) makes(n expr.Node) expr.Node {
	g.nodes++
	if g.nodes > 32 {
		panic(fault{g.at, api.ErrLong})
	}
	g.at++
	return n
}

func (g *grammar) left(part func() expr.Node, ops ...string) expr.Node {
	n := part()
	for g.is(ops...) {
		op := g.makes(expr.Node{Op: g.l[g.at].Text})
		op.Kids = []expr.Node{n, part()}
		n = op
	}
	return n
}

func (g *grammar) sum() expr.Node { return g.left(g.product, "+", "-") }

func (g *grammar) product() expr.Node { return g.left(g.factor, "*", "/", "%") }

func (g *grammar) factor() expr.Node {
	switch {
	case g.is("-"):
		n := g.makes(expr.Node{Op: "neg"})
		n.Kids = []expr.Node{g.factor()}
		return n
	case g.is("("):
		g.at++
		n := g.sum()
		if !g.is(")") {
			panic(fault{g.at, api.ErrForm})
		}
		g.at++
		return n
	case g.at < len(g.l) && g.l[g.at].Kind == 1:
		return g.makes(name(g.l[g.at].Text))
	case g.at < len(g.l) && g.l[g.at].Kind == 2:
		return g.makes(num(g.l[g.at].N))
	}
	panic(fault{g.at, api.ErrForm})
}

func of(l []lex.Token, at int) (n expr.Node, place int, e api.Errno) {
	defer func() {
		if f, ok := recover().(fault); ok {
			n, place, e = expr.Node{}, f.at, f.e
		}
	}()
	g := &grammar{l: l, at: at}
	n = g.sum()
	return n, g.at, api.OK
}

func parse(s string) (expr.Node, int, api.Errno) {
	l, at, e := lex.Tokens(s)
	if e != api.OK {
		return expr.Node{}, at, e
	}
	n, at, e := of(l, 0)
	bytes := len(s)
	if at < len(l) {
		bytes = l[at].At
	}
	switch {
	case e != api.OK:
		return expr.Node{}, bytes, e
	case at < len(l):
		return expr.Node{}, bytes, api.ErrForm
	}
	return n, 0, api.OK
}

// text is a second writing of Text.
func text(n expr.Node) string {
	switch n.Op {
	case "num":
		return strconv.FormatInt(n.N, 10)
	case "name":
		return n.Name
	case "neg":
		return "-" + text(n.Kids[0])
	}
	return fmt.Sprintf("(%s %s %s)", text(n.Kids[0]), n.Op, text(n.Kids[1]))
}

// every answers n and all below it.
func every(n expr.Node) []expr.Node {
	l := []expr.Node{n}
	for _, k := range n.Kids {
		l = append(l, every(k)...)
	}
	return l
}

// holdsOf wants of l, from each place on, what the second writing answers.
func holdsOf(t *testing.T, l []lex.Token) {
	t.Helper()
	for at := range len(l) + 1 {
		want, place, err := of(l, at)
		n, to, e := expr.Of(l, at)
		if e != err || to != place || !reflect.DeepEqual(n, want) {
			t.Errorf("P901: Of(%.60q, %d): %v, %d, %v; not %v, %d, %v", lex.Text(l), at, n, to, e, want, place, err)
		}
	}
}

// holds wants of s what the second writing answers; and, where s is taken, that all
// else is true of the Node.
func holds(t *testing.T, s string) {
	t.Helper()
	want, place, err := parse(s)
	n, at, e := expr.Parse(s)
	if e != err || at != place || !reflect.DeepEqual(n, want) {
		t.Errorf("P901: Parse(%.60q): %v, %d, %v; not %v, %d, %v", s, n, at, e, want, place, err)
	}
	if err == api.OK {
		holdsNode(t, want)
	}
}

// holdsNode wants of n, which may be, that Check takes it and that its Text is it.
func holdsNode(t *testing.T, n expr.Node) {
	t.Helper()
	if e := expr.Check(n); e != api.OK {
		t.Errorf("P901: Check(%v): %v", n, e)
	}
	s := expr.Text(n)
	if s != text(n) {
		t.Errorf("P901: Text(%v): %q", n, s)
	}
	if m, _, e := expr.Parse(s); e != api.OK || !reflect.DeepEqual(m, n) || !expr.Same(m, n) || !expr.Same(n, m) {
		t.Errorf("P901: Parse(%q) of a Text: %v, %v", s, m, e)
	}
	there := map[string]bool{}
	for _, m := range every(n) {
		if m.Op == "name" {
			there[m.Name] = true
		}
	}
	names := expr.Names(n)
	if len(names) != len(there) || !slices.IsSorted(names) || slices.ContainsFunc(names, func(s string) bool { return !there[s] }) {
		t.Errorf("P901: Names(%v): %v", n, names)
	}
}

func takes(t *testing.T, s, want string) {
	t.Helper()
	n, at, e := expr.Parse(s)
	if got := expr.Text(n); got != want || at != 0 || e != api.OK {
		t.Errorf("P901: Parse(%.60q): %q, %d, %v", s, got, at, e)
	}
	holds(t, s)
}

func refuses(t *testing.T, want api.Errno, place int, all ...string) {
	t.Helper()
	for _, s := range all {
		if n, at, e := expr.Parse(s); !reflect.DeepEqual(n, expr.Node{}) || at != place || e != want {
			t.Errorf("P901: Parse(%.60q): %v, %d, %v; not %d, %v", s, n, at, e, place, want)
		}
		holds(t, s)
	}
}

func checks(t *testing.T, want api.Errno, all ...expr.Node) {
	t.Helper()
	for _, n := range all {
		if e := expr.Check(n); e != want {
			t.Errorf("P901: Check(%.80v): %v, not %v", n, e, want)
		}
	}
}

func TestP901Nodes(t *testing.T) {
	for s, want := range map[string]expr.Node{
		"0":             num(0),
		most:            num(api.Most),
		"a":             name("a"),
		"abcdefgh":      name("abcdefgh"),
		"num":           name("num"),
		"neg":           name("neg"),
		"-a":            neg(name("a")),
		"- 7":           neg(num(7)),
		"-0":            neg(num(0)),
		"a+1":           two(name("a"), "+", num(1)),
		"a-1":           two(name("a"), "-", num(1)),
		"a*1":           two(name("a"), "*", num(1)),
		"a/1":           two(name("a"), "/", num(1)),
		"a%1":           two(name("a"), "%", num(1)),
		"(a)":           name("a"),
		"1-2-3":         two(two(num(1), "-", num(2)), "-", num(3)),
		"1-(2-3)":       two(num(1), "-", two(num(2), "-", num(3))),
		"1+2*3":         two(num(1), "+", two(num(2), "*", num(3))),
		"-1*2":          two(neg(num(1)), "*", num(2)),
		"-(1*2)":        neg(two(num(1), "*", num(2))),
		"  1  -  - a  ": two(num(1), "-", neg(name("a"))),
	} {
		if n, at, e := expr.Parse(s); !reflect.DeepEqual(n, want) || at != 0 || e != api.OK {
			t.Errorf("P901: Parse(%q): %v, %d, %v", s, n, at, e)
		}
		holds(t, s)
	}
}

func TestP901SumsAndProducts(t *testing.T) {
	takes(t, "a+b+c+d", "(((a + b) + c) + d)")
	takes(t, "a-b+c-d", "(((a - b) + c) - d)")
	takes(t, "a/b*c%d/e", "((((a / b) * c) % d) / e)")
	takes(t, "a+b*c-d", "((a + (b * c)) - d)")
	takes(t, "a*b+c*d", "((a * b) + (c * d))")
	takes(t, "a%b-c/d-e", "(((a % b) - (c / d)) - e)")
	takes(t, "a-b*c*d-e", "((a - ((b * c) * d)) - e)")
	takes(t, "2*3%4", "((2 * 3) % 4)")
}

func TestP901Negs(t *testing.T) {
	takes(t, "--a", "--a")
	takes(t, "---1", "---1")
	takes(t, "a--b", "(a - -b)")
	takes(t, "a---b", "(a - --b)")
	takes(t, "a*-b", "(a * -b)")
	takes(t, "a*-b*c", "((a * -b) * c)")
	takes(t, "a+-b*c", "(a + (-b * c))")
	takes(t, "-a-b", "(-a - b)")
	takes(t, "-a%-b", "(-a % -b)")
	takes(t, "--a*--b+--c", "((--a * --b) + --c)")
}

func TestP901Parentheses(t *testing.T) {
	takes(t, "(((a)))", "a")
	takes(t, "((a)+((b)))", "(a + b)")
	takes(t, "(a+b)*c", "((a + b) * c)")
	takes(t, "a*(b+c)", "(a * (b + c))")
	takes(t, "a/(b/c)", "(a / (b / c))")
	takes(t, "a-(b-(c-d))", "(a - (b - (c - d)))")
	takes(t, "((a-b)-c)-d", "(((a - b) - c) - d)")
	takes(t, "-(a)*b", "(-a * b)")
	takes(t, "-(-a)*b", "(--a * b)")
	takes(t, "-(-(a+b)*c)", "-(-(a + b) * c)")
	takes(t, "(-a)-(-b)", "(-a - -b)")
	takes(t, "(-(a+b)%c)*d", "((-(a + b) % c) * d)")
	takes(t, "a*((b)+c)*d", "((a * (b + c)) * d)")
}

func TestP901NoFactor(t *testing.T) {
	refuses(t, api.ErrForm, 0, "", "+", "*", "/", "%", ")", ",", "=", "+a", "*a", "<=", "!=a")
	refuses(t, api.ErrForm, 1, " ", "-", "(", " +", " )", "()", "(+a)", "-*a", "-)", "(,")
	refuses(t, api.ErrForm, 2, "a+", "a*", "a-", "--", "((", "a+*b", "a%/b", "a+)", "a-,", "a/=", "-(")
	refuses(t, api.ErrForm, 5, "a +  ", "(a + ", "a + (", "- - -", "a +  + b")
}

func TestP901NoClosing(t *testing.T) {
	refuses(t, api.ErrForm, 2, "(a", "(1", "(a,", "(a=b)", "(a<b)", "(a(b))", "(1=2)")
	refuses(t, api.ErrForm, 3, "((a", "(a b)", "(-a", "(1 2)", "((a=", "(a ")
	refuses(t, api.ErrForm, 4, "((a)", "(a+b", "((a),b)", "(a*b,c)", "(a+b=c)")
}

func TestP901MoreTokens(t *testing.T) {
	refuses(t, api.ErrForm, 1, "a)", "a=b", "a,b", "1<2", "1>=2", "a!=b", "a(b)", "a(", "a))", "a,")
	refuses(t, api.ErrForm, 2, "a b", "1 2", "a 1", "1 a", "a )", "a =", "a (b)", "a (")
	refuses(t, api.ErrForm, 3, "(a)b", "(a))", "a+b)", "-a b", "(a)(b)", "(a)1")
	refuses(t, api.ErrForm, 5, "a+b  c", "a + b)", "((a))(", "a*(b))")
}

// TestP901LexCountsFirst: an error of lex is told ahead of Of's, wherever it is.
func TestP901LexCountsFirst(t *testing.T) {
	refuses(t, api.ErrForm, 4, "a + 01", "a + !", ") ( A", "a b 1c", "a  )\t")
	refuses(t, api.ErrName, 0, "abcdefghi", "abcdefghi+", "abcdefghi )")
	refuses(t, api.ErrName, 3, ") (abcdefghi", "a+-abcdefghi")
	refuses(t, api.ErrArg, 2, "+ 9223372036854775808", "a 9223372036854775808", "--9223372036854775808")
	refuses(t, api.ErrLong, 0, strings.Repeat(" ", 1025), strings.Repeat("(", 1025), "a"+strings.Repeat(" ", 1024), strings.Repeat("-", 1025))
	refuses(t, api.ErrArg, 99, strings.Repeat("-", 99)+"9223372036854775808")
	refuses(t, api.ErrForm, 1024, strings.Repeat(" ", 1024), strings.Repeat("(", 1024), "(a"+strings.Repeat(" ", 1022))
	takes(t, strings.Repeat("(", 511)+"-a"+strings.Repeat(")", 511), "-a")
	takes(t, strings.Repeat(" ", 1023)+"a", "a")
}

// TestP901ErrorsInTheOrderOfTheTokens: of Of's errors the first token's is told.
func TestP901ErrorsInTheOrderOfTheTokens(t *testing.T) {
	full := "a" + strings.Repeat("+a", 15)
	refuses(t, api.ErrForm, 2, "a++"+full+full, "--)"+full+full, "((,"+full+full)
	refuses(t, api.ErrForm, len(full)+1, "("+full+","+full, "("+full+"(")
	refuses(t, api.ErrForm, len(full), full+","+full, full+")"+full, full+"("+full)
	refuses(t, api.ErrLong, len(full)+1, full+"+a+", full+"+a+)", full+"+a--", full+"+1+1")
	refuses(t, api.ErrLong, len(full)+2, "("+full+"+a+", "("+full+"*a+)")
}

// TestP901NodeLimit lays each sort of token that makes a Node at the 32nd place, where
// it may be, and at the 33rd.
func TestP901NodeLimit(t *testing.T) {
	sum := "a" + strings.Repeat("+a", 15)
	prod := "1" + strings.Repeat("*1", 15)
	for _, s := range []string{"-" + sum, "-" + prod, sum[:len(sum)-1] + "-a", prod[:len(prod)-1] + "-1"} {
		holdsLimit(t, s)
	}
	for _, op := range []string{"+", "-", "*", "/", "%"} {
		// The sign is the 32nd, what is behind it the 33rd.
		refuses(t, api.ErrLong, len(sum)+1, sum+op+"a", sum+op+"1", sum+op+"-a", prod+op+"1")
		refuses(t, api.ErrForm, len(sum)+1, sum+op, sum+op+")", sum+op+"*")
		refuses(t, api.ErrForm, len(sum)+2, sum+op+"(", sum+op+"()")
		refuses(t, api.ErrLong, len(sum)+2, sum+op+"(a)", sum+op+"(1)", sum+op+"(-")
		// The sign is the 33rd.
		refuses(t, api.ErrLong, len(sum)+1, "-"+sum+op+"a", "-"+sum+op, "-"+prod+op+")", "-"+prod+op+"(")
	}
	for _, s := range []string{"a", "1"} {
		holdsLimit(t, strings.Repeat("-", 31)+s)
		refuses(t, api.ErrLong, 32, strings.Repeat("-", 32)+s, strings.Repeat("-", 33)+s, strings.Repeat("-", 33), strings.Repeat("-", 99))
		refuses(t, api.ErrForm, 32, strings.Repeat("-", 32), strings.Repeat("-", 32)+")", strings.Repeat("-", 32)+"+")
	}
	refuses(t, api.ErrForm, 33, strings.Repeat("-", 32)+"(", strings.Repeat("-", 32)+"()")
	refuses(t, api.ErrLong, 33, strings.Repeat("-", 32)+"(a", strings.Repeat("-", 32)+"(-")
}

// holdsLimit: s makes as many Nodes as may be, in parentheses, too.
func holdsLimit(t *testing.T, s string) {
	t.Helper()
	for _, s := range []string{s, "(" + s + ")", strings.Repeat("(", 400) + s + strings.Repeat(")", 400)} {
		n, at, e := expr.Parse(s)
		if len(every(n)) != 32 || at != 0 || e != api.OK || expr.Check(n) != api.OK {
			t.Errorf("P901: Parse(%.60q): %d Nodes, %d, %v", s, len(every(n)), at, e)
		}
		holds(t, s)
	}
}

func TestP901OfGoesAsFarAsItGoes(t *testing.T) {
	l, _, _ := lex.Tokens("top ( 3 , a + 1 ) where - b < ( c % 2 ) and d = e f")
	for _, c := range []struct {
		at, to int
		text   string
	}{{0, 1, "top"}, {1, 3, ""}, {2, 3, "3"}, {3, 3, ""}, {4, 7, "(a + 1)"}, {5, 5, ""}, {6, 7, "1"}, {7, 7, ""}, {8, 11, "(where - b)"}, {9, 11, "-b"}, {10, 11, "b"}, {11, 11, ""}, {12, 17, "(c % 2)"}, {13, 16, "(c % 2)"}, {14, 14, ""}, {17, 18, "and"}, {18, 19, "d"}, {20, 21, "e"}, {21, 22, "f"}, {22, 22, ""}} {
		n, to, e := expr.Of(l, c.at)
		want := api.OK
		if c.text == "" {
			want = api.ErrForm
		}
		if to != c.to || e != want || expr.Text(n) != c.text {
			t.Errorf("P901: Of at %d: %v, %d, %v", c.at, n, to, e)
		}
	}
	holdsOf(t, l)
}

// TestP9PlacesOutside: no expression is at a place that is none.
func TestP9PlacesOutside(t *testing.T) {
	l, _, _ := lex.Tokens("a + b")
	for _, l := range [][]lex.Token{nil, {}, l, l[:1]} {
		for _, at := range []int{-1, -2, -len(l) - 1, api.Least} {
			if n, to, e := expr.Of(l, at); !reflect.DeepEqual(n, expr.Node{}) || to != 0 || e != api.ErrForm {
				t.Errorf("P9: Of %d tokens at %d: %v, %d, %v", len(l), at, n, to, e)
			}
		}
		for _, at := range []int{len(l), len(l) + 1, len(l) + 2, api.Most} {
			if n, to, e := expr.Of(l, at); !reflect.DeepEqual(n, expr.Node{}) || to != len(l) || e != api.ErrForm {
				t.Errorf("P9: Of %d tokens at %d: %v, %d, %v", len(l), at, n, to, e)
			}
		}
	}
}

// TestP901OddTokens: what lex would not make is no number, no name and no sign.
func TestP901OddTokens(t *testing.T) {
	a := lex.Token{Kind: lex.Name, Text: "a"}
	plus := lex.Token{Kind: lex.Sign, Text: "+"}
	for i, o := range []lex.Token{{}, {Kind: 4, Text: "a"}, {Kind: -1, Text: "1", N: 1}, {Kind: lex.Num, Text: "-1", N: -1}, {Kind: lex.Num, N: api.Least}, {Kind: lex.Name}, {Kind: lex.Name, Text: "A"}, {Kind: lex.Name, Text: "abcdefghi"}, {Kind: lex.Name, Text: "("}, {Kind: lex.Name, Text: "-"}, {Kind: lex.Name, Text: "1"}, {Kind: lex.Sign, Text: "a"}, {Kind: lex.Sign, Text: "1", N: 1}, {Kind: lex.Sign}, {Kind: lex.Sign, Text: "=="}, {Kind: lex.Sign, Text: "neg"}, {Kind: lex.Sign, Text: "--"}, {Kind: lex.Sign, Text: "(("}} {
		if n, to, e := expr.Of([]lex.Token{a, plus, o, a}, 0); !reflect.DeepEqual(n, expr.Node{}) || to != 2 || e != api.ErrForm {
			t.Errorf("P901: %d: Of a + %v: %v, %d, %v", i, o, n, to, e)
		}
		if n, to, e := expr.Of([]lex.Token{a, o, a}, 0); !reflect.DeepEqual(n, name("a")) || to != 1 || e != api.OK {
			t.Errorf("P901: %d: Of a %v: %v, %d, %v", i, o, n, to, e)
		}
	}
	for _, text := range []string{"+", "-", "*", "/", "%", ")"} {
		for _, kind := range []int{0, lex.Name, lex.Num, 4} {
			if n, to, e := expr.Of([]lex.Token{a, {Kind: kind, Text: text}, a}, 0); !reflect.DeepEqual(n, name("a")) || to != 1 || e != api.OK {
				t.Errorf("P901: Of a, %q of Kind %d: %v, %d, %v", text, kind, n, to, e)
			}
		}
	}
	// Where a token was doesn't count, nor what its Kind doesn't name.
	l := []lex.Token{{Kind: lex.Num, N: 7, At: -4}, {Kind: lex.Sign, Text: "*", N: 3, At: 1 << 40}, {Kind: lex.Name, Text: "a", N: 9}}
	if n, to, e := expr.Of(l, 0); !reflect.DeepEqual(n, two(num(7), "*", name("a"))) || to != 3 || e != api.OK {
		t.Errorf("P901: Of %v: %v, %d, %v", l, n, to, e)
	}
}

func TestP901Check(t *testing.T) {
	checks(t, api.OK, num(0), num(api.Most), name("a"), name("abcdefgh"), name("rep"), name("num"), neg(num(1)))
	for _, op := range []string{"+", "-", "*", "/", "%"} {
		checks(t, api.OK, two(name("a"), op, num(1)), two(neg(name("a")), op, two(num(1), op, num(2))))
		checks(t, api.ErrForm, expr.Node{Op: op}, expr.Node{Op: op, Kids: []expr.Node{num(1)}}, expr.Node{Op: op, Kids: []expr.Node{num(1), num(1), num(1)}})
	}
	// What an Op doesn't name doesn't count.
	checks(t, api.OK, expr.Node{Op: "num", N: 1, Name: "A"}, expr.Node{Op: "name", Name: "a", N: -1}, expr.Node{Op: "neg", Name: "A", N: -1, Kids: []expr.Node{num(1)}})
	checks(t, api.OK, expr.Node{Op: "num", Kids: []expr.Node{}}, expr.Node{Op: "name", Name: "a", Kids: make([]expr.Node, 0, 9)})
	for _, op := range []string{"", "^", "=", "<", "(", ",", "Num", "NUM", "num ", " ", "Name", "negs", "++", "+ ", "plus", "and", "\x00"} {
		checks(t, api.ErrForm, expr.Node{Op: op}, expr.Node{Op: op, Name: "a", N: 1}, neg(expr.Node{Op: op}), expr.Node{Op: op, Kids: []expr.Node{num(1)}}, two(num(1), op, num(2)))
	}
	checks(t, api.ErrForm, expr.Node{Op: "num", Kids: []expr.Node{num(1)}}, expr.Node{Op: "name", Name: "a", Kids: []expr.Node{num(1)}}, expr.Node{Op: "num", Kids: []expr.Node{num(1), num(2)}}, expr.Node{Op: "neg"}, expr.Node{Op: "neg", Kids: []expr.Node{num(1), num(2)}})
	checks(t, api.ErrName, name(""), name("A"), name("1"), name("1a"), name("a "), name(" a"), name("a.b"), name("é"), name("abcdefghi"), name("a+b"), name("-a"))
	checks(t, api.ErrArg, num(-1), num(api.Least))
}

// TestP6CheckTellsTheFirst: of one Node its errors in their order, of kids the first that has one.
func TestP6CheckTellsTheFirst(t *testing.T) {
	wrong := map[api.Errno]expr.Node{api.ErrForm: {}, api.ErrName: name(""), api.ErrArg: num(-1)}
	for e, n := range wrong {
		checks(t, e, n, neg(n), negs(31, n), two(n, "+", num(1)), two(num(1), "+", n), two(neg(name("a")), "*", two(name("b"), "/", n)))
		for _, o := range wrong {
			checks(t, e, two(n, "-", o), two(neg(n), "-", o), two(n, "-", neg(o)), two(two(name("a"), "*", n), "+", o))
			checks(t, api.ErrForm, expr.Node{Op: "^", Kids: []expr.Node{n, o}}, expr.Node{Op: "+", Kids: []expr.Node{n}}, expr.Node{Op: "neg", Kids: []expr.Node{n, o}})
			checks(t, api.ErrForm, expr.Node{Op: "name", Kids: []expr.Node{n}}, expr.Node{Op: "num", N: -1, Kids: []expr.Node{o}})
			checks(t, api.ErrLong, two(n, "-", negs(30, o)), negs(32, n), expr.Node{Op: "^", Kids: []expr.Node{negs(30, n), o}})
			checks(t, e, two(n, "-", negs(29, o)))
		}
	}
}

func TestP901CheckLimit(t *testing.T) {
	checks(t, api.OK, negs(31, num(1)), two(negs(14, num(1)), "+", negs(15, name("a"))))
	checks(t, api.ErrLong, negs(32, num(1)), two(negs(15, num(1)), "+", negs(15, name("a"))), negs(1000, num(1)))
	sum := num(0)
	for range 15 {
		sum = two(sum, "+", num(1))
	}
	checks(t, api.OK, sum, neg(sum))
	checks(t, api.ErrLong, neg(neg(sum)), two(sum, "+", num(1)), two(num(1), "+", sum))
	// Ahead of all: a Node that must have none counts its kids, too.
	for op, e := range map[string]api.Errno{"num": api.ErrForm, "name": api.ErrForm, "": api.ErrForm, "+": api.ErrForm, "neg": api.ErrForm} {
		checks(t, e, expr.Node{Op: op, Kids: slices.Repeat([]expr.Node{num(1)}, 31)}, expr.Node{Op: op, Kids: []expr.Node{negs(15, num(1)), num(1), negs(13, num(1))}})
		checks(t, api.ErrLong, expr.Node{Op: op, Kids: slices.Repeat([]expr.Node{num(1)}, 32)}, expr.Node{Op: op, Kids: []expr.Node{negs(15, num(1)), num(1), negs(14, num(1))}}, expr.Node{Op: op, Kids: make([]expr.Node, 1<<20)})
	}
}

func TestP901Text(t *testing.T) {
	for want, n := range map[string]expr.Node{
		"0": num(0), most: num(api.Most), "abcdefgh": name("abcdefgh"), "-1": neg(num(1)), "--a": neg(neg(name("a"))),
		"(a + 1)": two(name("a"), "+", num(1)), "(a - -1)": two(name("a"), "-", neg(num(1))), "-(a * b)": neg(two(name("a"), "*", name("b"))),
		"((a / b) % (c - d))": two(two(name("a"), "/", name("b")), "%", two(name("c"), "-", name("d"))),
	} {
		if got := expr.Text(n); got != want {
			t.Errorf("P901: Text(%v): %q", n, got)
		}
		holdsNode(t, n)
	}
	if got := expr.Text(expr.Node{Op: "name", Name: "a", N: 4}) + expr.Text(expr.Node{Op: "num", Name: "a", N: 4}); got != "a4" {
		t.Errorf("P901: Text tells what the Op doesn't name: %q", got)
	}
}

func TestP901Same(t *testing.T) {
	var all []expr.Node
	for _, a := range []expr.Node{num(0), num(1), name("a"), name("b")} {
		all = append(all, a, neg(a), neg(neg(a)))
		for _, b := range []expr.Node{num(0), name("a"), neg(num(0)), two(num(0), "+", num(1))} {
			for _, op := range []string{"+", "-", "*", "/", "%"} {
				all = append(all, two(a, op, b), neg(two(a, op, b)), two(neg(a), op, b), two(two(num(1), "-", a), op, b), two(num(1), "-", two(a, op, b)))
			}
		}
	}
	for i, a := range all {
		for j, b := range all {
			if got := expr.Same(a, b); got != (text(a) == text(b)) {
				t.Fatalf("P901: Same(%v, %v), %d and %d: %v", a, b, i, j, got)
			}
		}
	}
}

// TestP901SameAsFarAsNamed: what an Op doesn't name doesn't count.
func TestP901SameAsFarAsNamed(t *testing.T) {
	for _, c := range []struct {
		a, b expr.Node
		want bool
	}{
		{num(3), expr.Node{Op: "num", N: 3, Name: "a"}, true},
		{num(3), expr.Node{Op: "num", N: 3, Kids: []expr.Node{num(1)}}, true},
		{name("a"), expr.Node{Op: "name", N: 3, Name: "a"}, true},
		{neg(num(3)), expr.Node{Op: "neg", N: 3, Name: "a", Kids: []expr.Node{num(3)}}, true},
		{two(num(3), "+", num(4)), expr.Node{Op: "+", N: 3, Name: "a", Kids: []expr.Node{num(3), {Op: "num", N: 4, Name: "b"}}}, true},
		{num(0), name(""), false},
		{num(0), expr.Node{}, false},
		{neg(num(0)), num(0), false},
		{two(num(1), "+", num(2)), expr.Node{Op: "+", Kids: []expr.Node{num(1)}}, false},
		{two(num(1), "+", num(2)), expr.Node{Op: "+", Kids: []expr.Node{num(1), num(2), num(3)}}, false},
		{two(neg(num(1)), "+", num(2)), two(num(1), "+", neg(num(2))), false},
		{two(neg(num(1)), "+", num(2)), expr.Node{Op: "+", Kids: []expr.Node{{Op: "neg", Kids: []expr.Node{num(1), num(2)}}}}, false},
		{num(3), expr.Node{Op: "num", N: 3, Kids: []expr.Node{}}, true},
	} {
		if expr.Same(c.a, c.b) != c.want || expr.Same(c.b, c.a) != c.want {
			t.Errorf("P901: Same(%v, %v), or turned: not %v", c.a, c.b, c.want)
		}
	}
	if n := negs(31, num(1)); !expr.Same(n, negs(31, num(1))) || expr.Same(n, negs(31, num(2))) || expr.Same(n, negs(30, num(1))) {
		t.Errorf("P901: Same of 32 Nodes")
	}
	// P8 leaves open what more Nodes are told to be; what is unlike is never the same.
	if expr.Same(negs(40, num(1)), negs(40, num(2))) || expr.Same(negs(32, num(1)), num(1)) {
		t.Errorf("P901: Same of unlike Nodes, more than may be")
	}
}

func TestP901Names(t *testing.T) {
	for s, want := range map[string]string{
		"1": "[]", "-1+2*3": "[]", "a": "[a]", "-a": "[a]", "a+a*a": "[a]", "c*a+-(b-a)": "[a b c]", "b10+b2+b1+b+a9": "[a9 b b1 b10 b2]",
		"z%y-x/(w*(v+(u-t)))": "[t u v w x y z]", "num+neg+name": "[name neg num]",
	} {
		n, _, e := expr.Parse(s)
		if got := fmt.Sprint(expr.Names(n)); got != want || e != api.OK {
			t.Errorf("P901: Names of %q: %s, %v", s, got, e)
		}
	}
	if l := expr.Names(expr.Node{Op: "num", Name: "a"}); len(l) != 0 {
		t.Errorf("P901: Names of a number: %v", l)
	}
	if l := expr.Names(expr.Node{Op: "neg", Name: "b", Kids: []expr.Node{name("a")}}); !slices.Equal(l, []string{"a"}) {
		t.Errorf("P901: Names of a neg: %v", l)
	}
}

// TestP901AllShortTokens holds all lists of a few tokens of each sort, from each place on.
func TestP901AllShortTokens(t *testing.T) {
	sorts, _, _ := lex.Tokens("a 1 ( ) - * ,")
	all := [][]lex.Token{nil}
	for begin := 0; len(all[begin]) < 6; begin++ {
		for _, s := range sorts {
			all = append(all, append(slices.Clip(all[begin]), s))
		}
	}
	for _, l := range all {
		want, place, err := of(l, 0)
		if n, to, e := expr.Of(l, 0); e != err || to != place || !reflect.DeepEqual(n, want) {
			t.Fatalf("P901: Of(%q, 0): %v, %d, %v; not %v, %d, %v", lex.Text(l), n, to, e, want, place, err)
		}
	}
	for _, l := range all[:3000] {
		holdsOf(t, l)
		holds(t, lex.Text(l))
	}
}

// TestP901ManyTexts holds texts put together from words of each sort, most often so
// that they go on as they may.
func TestP901ManyTexts(t *testing.T) {
	r := rand.New(rand.NewSource(9))
	for range 20000 {
		var s strings.Builder
		open, factor := 0, true
		for range r.Intn(80) {
			words := []string{"+", "-", "*", "/", "%", ")", " "}
			if factor {
				words = []string{"a", "b1", "sum", "0", "7", most, "(", "-", " "}
			}
			w := words[r.Intn(len(words))]
			if w == ")" && open == 0 {
				w = " * "
			}
			if r.Intn(300) == 0 {
				w = []string{",", ")", "=", "01", "!", "abcdefghi", " a "}[r.Intn(7)]
			}
			s.WriteString(w)
			switch w {
			case "(":
				open++
			case ")":
				open--
			case " ":
			case "-":
				factor = true
			default:
				factor = !factor
			}
		}
		if factor {
			s.WriteString(" x")
		}
		holds(t, s.String()+strings.Repeat(")", max(0, open)))
	}
}

// made answers a Node of so many Nodes.
func made(r *rand.Rand, nodes int) expr.Node {
	switch {
	case nodes == 1 && r.Intn(2) == 0:
		return num(r.Int63())
	case nodes == 1:
		return name([]string{"a", "b", "load", "x9"}[r.Intn(4)])
	case nodes == 2 || r.Intn(4) == 0:
		return neg(made(r, nodes-1))
	}
	left := 1 + r.Intn(nodes-2)
	return two(made(r, left), []string{"+", "-", "*", "/", "%"}[r.Intn(5)], made(r, nodes-1-left))
}

// TestP901ManyNodes: of what may be the Text is it; and Go, which has the same order
// of signs, finds the same in it without its parentheses.
func TestP901ManyNodes(t *testing.T) {
	r := rand.New(rand.NewSource(90))
	for range 5000 {
		n := made(r, 1+r.Intn(32))
		holdsNode(t, n)
		l, _, _ := lex.Tokens(strings.NewReplacer("(", "", ")", "").Replace(text(n)))
		s := lex.Text(l)
		tree, err := parser.ParseExpr(s)
		if err != nil {
			t.Fatal(err)
		}
		m, _, e := expr.Parse(s)
		if got := expr.Text(m); got != goText(tree) || e != api.OK {
			t.Errorf("P901: Parse(%q): %q, %v; not %q", s, got, e, goText(tree))
		}
	}
	for range 2000 {
		nodes := 33 + r.Intn(40)
		if n := made(r, nodes); len(every(n)) != nodes || expr.Check(n) != api.ErrLong {
			t.Errorf("P901: Check of %d Nodes: %v", nodes, expr.Check(n))
		}
	}
}

func goText(e ast.Expr) string {
	switch x := e.(type) {
	case *ast.BinaryExpr:
		return "(" + goText(x.X) + " " + x.Op.String() + " " + goText(x.Y) + ")"
	case *ast.UnaryExpr:
		return x.Op.String() + goText(x.X)
	case *ast.BasicLit:
		return x.Value
	case *ast.Ident:
		return x.Name
	}
	return "?"
}

// spoil overwrites all of n that others could share.
func spoil(n expr.Node) {
	all := n.Kids[:cap(n.Kids)]
	for i := range all {
		spoil(all[i])
		all[i] = expr.Node{Op: "spoilt", Name: "spoilt", N: 9}
	}
}

func TestP2AnswersAreNewMemory(t *testing.T) {
	for _, s := range []string{"-a", "a+b*c-d", "-(a+a)*(a+a)", "--(1%2)/3", "a"} {
		n, _, _ := expr.Parse(s)
		m, _, _ := expr.Parse(s)
		was := text(m)
		spoil(n)
		l, _, _ := expr.Parse(s)
		if text(m) != was || text(l) != was {
			t.Errorf("P2: two answers of Parse(%q) share: %v, %v", s, m, l)
		}
		there := map[*expr.Node]bool{}
		for _, o := range every(m) {
			for i := range o.Kids[:cap(o.Kids)] {
				place := &o.Kids[:cap(o.Kids)][i]
				if there[place] {
					t.Errorf("P2: two lists of an answer of Parse(%q) share", s)
				}
				there[place] = true
			}
		}
		names := expr.Names(l)
		others := expr.Names(l)
		first := slices.Clone(others)
		for i := range names[:cap(names)] {
			names[:cap(names)][i] = "spoilt"
		}
		if !slices.Equal(others, first) || text(l) != was {
			t.Errorf("P2: two answers of Names of %q share", s)
		}
	}
}

func TestP2LeavesWhatIsHandedIn(t *testing.T) {
	all, _, _ := lex.Tokens("a + - b * ( c - d ) + e")
	was := slices.Clone(all)
	n, _, e := expr.Of(all[:4], 0)
	if !slices.Equal(all, was) || e != api.OK || text(n) != "(a + -b)" {
		t.Errorf("P2: Of: %v, %v", all, n)
	}
	for i := range all {
		all[i] = lex.Token{Kind: 9, Text: "spoilt"}
	}
	if text(n) != "(a + -b)" {
		t.Errorf("P2: Of keeps its tokens: %v", n)
	}
	kids := []expr.Node{two(name("b"), "*", name("a")), name("c"), name("spare")}
	m := expr.Node{Op: "+", Kids: kids[:2]}
	twin := expr.Node{Op: "+", Kids: []expr.Node{two(name("b"), "*", name("a")), name("c")}}
	expr.Text(m)
	expr.Check(m)
	expr.Names(m)
	expr.Same(m, twin)
	expr.Same(twin, m)
	if !reflect.DeepEqual(m, twin) || !reflect.DeepEqual(kids[2], name("spare")) {
		t.Errorf("P2: what is handed in is another: %v", kids)
	}
}

// ends wants that all calls that take a Node end of this one, and answer the same again.
func ends(t *testing.T, n expr.Node) {
	t.Helper()
	if expr.Text(n) != expr.Text(n) || expr.Check(n) != expr.Check(n) || expr.Same(n, n) != expr.Same(n, n) || !slices.Equal(expr.Names(n), expr.Names(n)) {
		t.Errorf("P3: of %.40s", expr.Text(n))
	}
	expr.Same(n, num(1))
	expr.Same(num(1), n)
}

// TestP1OddNodes: of what Check refuses all else ends, too.
func TestP1OddNodes(t *testing.T) {
	for _, op := range []string{"", "num", "name", "neg", "+", "^"} {
		for kids := range 4 {
			ends(t, expr.Node{Op: op, Kids: make([]expr.Node, kids)})
			ends(t, neg(expr.Node{Op: op, Name: "\xff", N: -1, Kids: slices.Repeat([]expr.Node{num(-1)}, kids)}))
		}
		ends(t, expr.Node{Op: op, Kids: make([]expr.Node, 1<<20)})
	}
	deep := negs(1000000, name("a"))
	ends(t, deep)
	checks(t, api.ErrLong, deep)
	wide := name("a")
	for range 60 {
		wide = two(wide, "+", wide)
	}
	ends(t, wide)
	checks(t, api.ErrLong, wide)
	own := []expr.Node{{Op: "neg"}}
	own[0].Kids = own
	ends(t, own[0])
	if e := expr.Check(own[0]); e != api.ErrLong {
		t.Errorf("P1: Check of what is its own kid: %v", e)
	}
}

// TestP1ManyTokens: as many parentheses as one may hand in.
func TestP1ManyTokens(t *testing.T) {
	const many = 2500000
	l := slices.Repeat([]lex.Token{{Kind: lex.Sign, Text: "("}}, 2*many+2)
	if n, to, e := expr.Of(l, 0); n.Op != "" || to != len(l) || e != api.ErrForm {
		t.Errorf("P1: Of parentheses: %d, %v", to, e)
	}
	l[many] = lex.Token{Kind: lex.Name, Text: "a"}
	for i := many + 1; i < len(l); i++ {
		l[i].Text = ")"
	}
	n, to, e := expr.Of(l, 0)
	if !reflect.DeepEqual(n, name("a")) || to != 2*many+1 || e != api.OK {
		t.Errorf("P1: Of parentheses: %v, %d, %v", n, to, e)
	}
	if n, to, e = expr.Of(l[:2*many], 0); n.Op != "" || to != 2*many || e != api.ErrForm {
		t.Errorf("P1: Of parentheses: %v, %d, %v", n, to, e)
	}
}

// TestP1AnyData: whatever it is given, each call ends, and answers the same again (P3).
func TestP1AnyData(t *testing.T) {
	r := rand.New(rand.NewSource(1))
	sorts, _, _ := lex.Tokens("a 1 ( ) - * , + % = b 2")
	for n := range 1100 {
		b := make([]byte, n)
		for i := range b {
			b[i] = byte(r.Intn(256))
		}
		holds(t, string(b))
		l := make([]lex.Token, r.Intn(60))
		for i := range l {
			l[i] = sorts[r.Intn(len(sorts))]
		}
		holdsOf(t, l)
		a, to, e := expr.Of(l, 0)
		if b, place, err := expr.Of(l, 0); !reflect.DeepEqual(a, b) || to != place || e != err {
			t.Errorf("P3: of %.20q", lex.Text(l))
		}
	}
}
