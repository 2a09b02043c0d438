package agg_test

import (
	"fmt"
	"math/big"
	"math/rand"
	"reflect"
	"slices"
	"strings"
	"testing"

	"canton/agg"
	"canton/api"
	"canton/calc"
	"canton/expr"
	"canton/lex"
	"canton/row"
	"canton/value"
)

var (
	funcs = []string{"count", "min", "max", "sum", "first", "top"}
	signs = []string{"=", "!=", "<", "<=", ">", ">="}
)

// heads tells what stands in the parentheses of each Func.
var heads = map[string]string{"count": "", "min": "E", "max": "E", "sum": "E", "first": "E , E", "top": "K , E"}

func num(n int64) expr.Node { return expr.Node{Op: "num", N: n} }

func name(s string) expr.Node { return expr.Node{Op: "name", Name: s} }

func neg(a expr.Node) expr.Node { return expr.Node{Op: "neg", Kids: []expr.Node{a}} }

func two(a expr.Node, op string, b expr.Node) expr.Node {
	return expr.Node{Op: op, Kids: []expr.Node{a, b}}
}

func negs(many int, n expr.Node) expr.Node {
	for range many {
		n = neg(n)
	}
	return n
}

func node(s string) expr.Node {
	n, _, e := expr.Parse(s)
	if e != api.OK {
		panic("no expression: " + s)
	}
	return n
}

// conds answers the conditions of these texts, each with blanks around its sign.
func conds(all ...string) []agg.Cond {
	var l []agg.Cond
	for _, s := range all {
		w := strings.Fields(s)
		l = append(l, agg.Cond{Op: w[1], A: node(w[0]), B: node(w[2])})
	}
	return l
}

// parsed answers the Agg that s must be.
func parsed(t *testing.T, s string) agg.Agg {
	t.Helper()
	a, at, e := agg.Parse(s)
	if at != 0 || e != api.OK {
		t.Fatalf("P1101: Parse(%q): %d, %v", s, at, e)
	}
	return a
}

// grammar is a second writing of what Parse reads: it goes along a line that tells
// what must come, and ends by a panic of a fault.
type grammar struct {
	l     []lex.Token
	at    int
	k     int64
	nodes []expr.Node
	ops   []string
}

type fault struct {
	at int
	e  api.Errno
}

func (g *grammar) text() string {
	if g.at == len(g.l) {
		return ""
	}
	return g.l[g.at].Text
}

func (g *grammar) must(so bool, e api.Errno) {
	if !so {
		panic(fault{g.at, e})
	}
}

func (g *grammar) along(line string) {
	for _, part := range strings.Fields(line) {
		switch part {
		case "E":
			n, at, e := expr.Of(g.l, g.at)
			g.at = at
			g.must(e == api.OK, e)
			g.nodes = append(g.nodes, n)
			continue
		case "K":
			g.must(g.at < len(g.l) && g.l[g.at].Kind == 2, api.ErrForm)
			g.k = g.l[g.at].N
			g.must(g.k > 0 && g.k < 17, api.ErrArg)
		case "O":
			g.must(slices.Contains(signs, g.text()), api.ErrForm)
			g.ops = append(g.ops, g.text())
		default:
			g.must(g.text() == part, api.ErrForm)
		}
		g.at++
	}
}

func (g *grammar) whole() agg.Agg {
	g.must(g.at < len(g.l) && g.l[g.at].Kind == 1, api.ErrForm)
	f := g.text()
	head, there := heads[f]
	g.must(there, api.ErrName)
	g.along(f + " ( " + head + " )")
	a := agg.Agg{Func: f, K: g.k}
	switch n := append(g.nodes, expr.Node{}, expr.Node{}); f {
	case "first":
		a.E, a.By = n[0], n[1]
	default:
		a.E = n[0]
	}
	args := len(g.nodes)
	for g.at < len(g.l) {
		switch {
		case len(g.ops) == 0:
			g.along("where E O E")
		case len(g.ops) == 4 && g.text() == "and":
			panic(fault{g.at, api.ErrLong})
		default:
			g.along("and E O E")
		}
	}
	for i, op := range g.ops {
		a.Where = append(a.Where, agg.Cond{Op: op, A: g.nodes[args+2*i], B: g.nodes[args+2*i+1]})
	}
	return a
}

func parse(s string) (a agg.Agg, at int, e api.Errno) {
	l, at, e := lex.Tokens(s)
	if e != api.OK {
		return agg.Agg{}, at, e
	}
	defer func() {
		f, ok := recover().(fault)
		if !ok {
			return
		}
		a, at, e = agg.Agg{}, len(s), f.e
		if f.at < len(l) {
			at = l[f.at].At
		}
	}()
	g := &grammar{l: l}
	return g.whole(), 0, api.OK
}

// text is a second writing of Text, of an a that may be.
func text(a agg.Agg) string {
	s := fmt.Sprintf("%s(%s)", a.Func, map[string]string{
		"count": "", "first": expr.Text(a.E) + ", " + expr.Text(a.By), "top": fmt.Sprintf("%d, %s", a.K, expr.Text(a.E)),
		"min": expr.Text(a.E), "max": expr.Text(a.E), "sum": expr.Text(a.E),
	}[a.Func])
	var all []string
	for _, c := range a.Where {
		all = append(all, fmt.Sprintf("%s %s %s", expr.Text(c.A), c.Op, expr.Text(c.B)))
	}
	if len(all) > 0 {
		s += " where " + strings.Join(all, " and ")
	}
	return s
}

// holds wants of s what the second writing answers; and, where s is taken, that all
// else is true of the Agg.
func holds(t *testing.T, s string) {
	t.Helper()
	want, place, err := parse(s)
	a, at, e := agg.Parse(s)
	if e != err || at != place || !reflect.DeepEqual(a, want) {
		t.Errorf("P1101: Parse(%.200q): %v, %d, %v; not %v, %d, %v", s, a, at, e, want, place, err)
	}
	if err == api.OK {
		holdsAgg(t, want)
	}
}

// holdsAgg wants of a, which may be, that Check takes it and that its Text is it.
func holdsAgg(t *testing.T, a agg.Agg) {
	t.Helper()
	if e := agg.Check(a); e != api.OK {
		t.Errorf("P1101: Check(%v): %v", a, e)
	}
	s := agg.Text(a)
	if s != text(a) {
		t.Errorf("P1101: Text(%v): %q", a, s)
	}
	if !agg.Same(a, a) {
		t.Errorf("P1101: Same(%v) of itself: false", a)
	}
	// A Text may be longer than a text from which words are cut.
	b, at, e := agg.Parse(s)
	if len(s) > 1024 && (at != 0 || e != api.ErrLong) || len(s) <= 1024 && (e != api.OK || !reflect.DeepEqual(b, a) || !agg.Same(a, b) || !agg.Same(b, a)) {
		t.Errorf("P1101: Parse(%q) of a Text: %v, %v", s, b, e)
	}
}

func takes(t *testing.T, want agg.Agg, all ...string) {
	t.Helper()
	for _, s := range all {
		a, at, e := agg.Parse(s)
		if !reflect.DeepEqual(a, want) || at != 0 || e != api.OK {
			t.Errorf("P1101: Parse(%q): %v, %d, %v; not %v", s, a, at, e, want)
		}
		holds(t, s)
	}
}

func refuses(t *testing.T, want api.Errno, place int, all ...string) {
	t.Helper()
	for _, s := range all {
		if a, at, e := agg.Parse(s); !reflect.DeepEqual(a, agg.Agg{}) || at != place || e != want {
			t.Errorf("P1101: Parse(%.200q): %v, %d, %v; not %d, %v", s, a, at, e, place, want)
		}
		holds(t, s)
	}
}

func TestP1101Parse(t *testing.T) {
	takes(t, agg.Agg{Func: "count"}, "count()", " count ( ) ", "count( )")
	takes(t, agg.Agg{Func: "min", E: name("a")}, "min(a)", "min ( a )", "min((a))")
	takes(t, agg.Agg{Func: "max", E: num(7)}, "max(7)")
	takes(t, agg.Agg{Func: "sum", E: node("-a*2+b")}, "sum(-a*2+b)", "sum(((-a*2)+b))")
	takes(t, agg.Agg{Func: "first", E: name("a"), By: neg(name("b"))}, "first(a,-b)", " first ( a , - b ) ")
	takes(t, agg.Agg{Func: "first", E: name("first"), By: name("top")}, "first(first,top)")
	takes(t, agg.Agg{Func: "top", K: 1, E: name("a")}, "top(1,a)")
	takes(t, agg.Agg{Func: "top", K: 16, E: node("16-a")}, "top(16,16-a)")
	takes(t, agg.Agg{Func: "top", K: 3, E: name("top")}, "top(3,top)")
}

func TestP1101ParseConds(t *testing.T) {
	for _, op := range signs {
		takes(t, agg.Agg{Func: "count", Where: conds("a " + op + " 1")}, "count() where a"+op+"1", "count()where a "+op+" 1 ")
		takes(t, agg.Agg{Func: "top", K: 2, E: name("a"), Where: conds("b+1 " + op + " -c")}, "top(2,a) where b+1"+op+"-c")
	}
	takes(t, agg.Agg{Func: "count", Where: conds("a = 1", "b < 2")}, "count() where a=1 and b<2")
	takes(t, agg.Agg{Func: "min", E: name("a"), Where: conds("a >= 1", "b != 2", "(a+b)*2 > c")}, "min(a) where a>=1 and b!=2 and (a+b)*2>c")
	takes(t, agg.Agg{Func: "first", E: name("a"), By: name("b"), Where: conds("a = 1", "a = 1", "a = 1", "a = 1")}, "first(a,b) where a=1 and a=1 and a=1 and a=1")
	// Words of the language are names as well as others.
	takes(t, agg.Agg{Func: "sum", E: name("where"), Where: conds("where = and", "and < where", "count = min")}, "sum(where) where where=and and and<where and count=min")
	takes(t, agg.Agg{Func: "max", E: name("and"), Where: conds("and = and")}, "max(and) where and=and")
}

func TestP1101ParseLex(t *testing.T) {
	refuses(t, api.ErrForm, 4, "avg !", "avg ? top(0,a)", "cnt(01)", "avg 1a")
	refuses(t, api.ErrName, 4, "min(abcdefghi)", "avg(abcdefghi)")
	refuses(t, api.ErrArg, 4, "top(9223372036854775808,a)", "avg(9223372036854775808)")
	refuses(t, api.ErrForm, 9, "count() a!", "top(17,a)!", "top(17,a)01")
	refuses(t, api.ErrName, 0, "abcdefghi()", "counttopa")
	refuses(t, api.ErrForm, 0, "Count()", "!", "\x00", "\tmin(a)", "\"", "0a")
	refuses(t, api.ErrLong, 0, strings.Repeat("!", 1025), "count()"+strings.Repeat(" ", 1018))
	takes(t, agg.Agg{Func: "count"}, "count()"+strings.Repeat(" ", 1017))
	refuses(t, api.ErrForm, 1024, strings.Repeat(" ", 1024))
}

func TestP1101ParseForm(t *testing.T) {
	refuses(t, api.ErrForm, 0, "", "1", "(", ")", ",", "-", "=", "(count())", "1 count()", "-min(a)")
	refuses(t, api.ErrForm, 2, "  ", "  1", "  (min)")
	refuses(t, api.ErrForm, 3, "min", "min)", "min,a", "min-a", "top,", "sum=")
	refuses(t, api.ErrForm, 4, "min ", "min a", "min 1", "top where", "min()", "min(,a)", "min(=a)", "min(")
	refuses(t, api.ErrForm, 5, "min(a", "min(a,b)", "min(a=b)", "sum(a<1)", "count", "count)", "max(-", "max(-)")
	refuses(t, api.ErrForm, 6, "count(", "count(a)", "count(1)", "count((", "count(-", "count(,)", "first(", "first()", "first(,")
	refuses(t, api.ErrForm, 7, "min(a) a", "min(a) (", "min(a) 1", "min(a) and a=1", "first(a", "first(a)", "min(a+ )", "min(a- ")
	refuses(t, api.ErrForm, 8, "first(a,", "first(a,)", "first(a,,b)", "count() count()", "count() = 1", "count() +1", "count() where1=1")
	refuses(t, api.ErrForm, 9, "first(a,b", "first(a,b,c)", "first(a,b=c)", "first(a,b(")
}

func TestP1101ParseFormOfK(t *testing.T) {
	refuses(t, api.ErrForm, 4, "top(", "top()", "top(a,b)", "top(a)", "top(-1,b)", "top(-", "top((3),a)", "top(,", "top(a,0)")
	refuses(t, api.ErrForm, 5, "top(3", "top(3)", "top(3+1,a)", "top(1=a)", "top(3-", "top(3(")
	refuses(t, api.ErrForm, 6, "top(3,", "top(3,)", "top(3,,a)", "top(3 a)", "top(16", "top(16)", "top(3,=", "top(16(a))")
	refuses(t, api.ErrForm, 7, "top(3,a", "top(3,a,b)", "top(3,a=b)", "top(3,(")
}

func TestP1101ParseFormOfConds(t *testing.T) {
	refuses(t, api.ErrForm, 13, "count() where", "count() where)", "count() where=1", "count() where,a=1")
	refuses(t, api.ErrForm, 15, "count() where a", "count() where a)", "count() where a,1", "count() where a(b)")
	refuses(t, api.ErrForm, 16, "count() where a=", "count() where a==1", "count() where a=)", "count() where a b", "count() where a and a=1", "count() where a+", "count() where a=<1")
	refuses(t, api.ErrForm, 17, "count() where a+b", "count() where a=1)", "count() where a=1=2", "count() where a=1,a=2", "count() where a=1(", "count() where a<=", "count() where a!==1")
	refuses(t, api.ErrForm, 18, "count() where a=1 where b=2", "count() where a=1 b=2", "count() where a=1 1", "count() where a=1 (", "count() where a=1 count()", "count() where a=1 or b=2")
	refuses(t, api.ErrForm, 21, "count() where a=1 and", "count() where a=1 and)", "count() where a=1 and=2", "count() where a=1 and,")
	refuses(t, api.ErrForm, 22, "count() where a=1 and ", "count() where a=1 and )", "count() where a=1 and =", "count() where a=(b+1) (")
	refuses(t, api.ErrForm, 29, "count() where a=1 and a=1 and", "count() where a=1 and a=1 and!=")
	refuses(t, api.ErrForm, 8, "count() and a=1", "count() a=1", "count() 1=1", "count() (where a=1)")
	refuses(t, api.ErrForm, 16, "count() where (a=1)", "count() where (a<1) and b=1")
}

func TestP1101ParseName(t *testing.T) {
	refuses(t, api.ErrName, 0, "avg(a)", "avg", "a", "where", "and", "where a=1", "counts()", "coun()", "mins(a)", "num", "neg", "avg 1", "avg(", "e(a)", "firs(a,b)", "top1(1,a)")
	refuses(t, api.ErrName, 1, " avg(a)", " x where", " count1()")
}

func TestP1101ParseArg(t *testing.T) {
	refuses(t, api.ErrArg, 4, "top(0,a)", "top(17,a)", "top(0", "top(17", "top(17)", "top(0,", "top(18 a)", "top(100,a)", "top(9223372036854775807,a)", "top(4294967297,a)", "top(0+1,a)", "top(257,)")
	refuses(t, api.ErrArg, 6, " top( 0 , a ) where", " top( 17 ")
	for k := int64(1); k <= 16; k++ {
		takes(t, agg.Agg{Func: "top", K: k, E: name("a")}, fmt.Sprintf("top(%d,a)", k))
	}
}

func TestP1101ParseLong(t *testing.T) {
	four := "count() where a=1 and a=1 and a=1 and a=1"
	refuses(t, api.ErrLong, 42, four+" and", four+" and a=1", four+" and )", four+" and a=1 and a=1", four+" and 1", four+" and and", four+" and where")
	refuses(t, api.ErrForm, 42, four+" a=1", four+" where", four+" where a=1", four+" 1", four+" (", four+" count()", four+" or")
	refuses(t, api.ErrForm, 41, four+")", four+"=1", four+",")
	refuses(t, api.ErrForm, 38, "count() where a=1 and a=1 and a=1 and )", "count() where a=1 and a=1 and a=1 and ")
	takes(t, agg.Agg{Func: "count", Where: conds("a = 1", "a = 1", "a = 1", "a = 1")}, four, four+" ")
}

// TestP1101ParseNodes: the Nodes of each expression are counted by themselves.
func TestP1101ParseNodes(t *testing.T) {
	most, many := "-a"+strings.Repeat("+a", 15), strings.Repeat("-", 32)+"a"
	holds(t, "first("+most+","+most+") where "+most+"="+most+" and "+most+"<"+most+" and "+most+">"+most)
	takes(t, agg.Agg{Func: "min", E: negs(31, name("a"))}, "min("+many[1:]+")")
	refuses(t, api.ErrLong, 36, "min("+many+")", "min("+many, "sum("+many+",")
	refuses(t, api.ErrLong, 38, "top(1,"+many+")", "top(1,"+many+") where")
	refuses(t, api.ErrLong, 40, "first(a,"+many+")", "first(a,"+many)
	refuses(t, api.ErrLong, 38, "first("+many+",)")
	refuses(t, api.ErrLong, 46, "count() where "+many+"=1", "count() where "+many)
	refuses(t, api.ErrLong, 48, "count() where a="+many, "count() where 1<"+many+" and")
	refuses(t, api.ErrLong, 54, "count() where a=1 and "+many, "count() where a=1 and "+many+"+")
}

// TestP1101ParseTheFirstFault: of several faults the first in the order of the tokens is told.
func TestP1101ParseTheFirstFault(t *testing.T) {
	many := strings.Repeat("-", 32) + "a"
	refuses(t, api.ErrName, 0, "avg(0,"+many+") where where")
	refuses(t, api.ErrForm, 4, "top 0,"+many, "top 17")
	refuses(t, api.ErrArg, 4, "top(0 "+many, "top(0,"+many+") and")
	refuses(t, api.ErrLong, 38, "top(1,"+many+" where")
	refuses(t, api.ErrForm, 8, "top(1,a where "+many, "top(1,a 17")
	refuses(t, api.ErrForm, 8, "count() "+many, "count() and a=1 and a=1 and a=1 and a=1 and a=1")
	refuses(t, api.ErrForm, 24, "count() where a=1 and a+) and a=1 and a=1 and a=1")
}

// TestP1101ParseAllShort holds all short lists of words, behind some that begin well.
func TestP1101ParseAllShort(t *testing.T) {
	words := []string{"count", "a", "3", "17", "(", ")", ",", "<=", "-", "where", "and"}
	var tails []string
	for _, a := range append(words, "") {
		for _, b := range append(words, "") {
			for _, c := range append(words, "") {
				for _, d := range append(words, "") {
					tails = append(tails, strings.Join([]string{a, b, c, d}, " "))
				}
			}
		}
	}
	for _, head := range []string{"", "count ", "count(", "count() ", "count() where a ", "count() where a=1 ", "min(", "sum(a) ", "first(", "first(a ", "top(", "top(3", "top(3,"} {
		for _, tail := range tails {
			s := head + tail
			want, place, err := parse(s)
			if a, at, e := agg.Parse(s); e != err || at != place || !reflect.DeepEqual(a, want) {
				t.Fatalf("P1101: Parse(%q): %v, %d, %v; not %v, %d, %v", s, a, at, e, want, place, err)
			}
		}
	}
}

// made answers a Node of so many Nodes.
func made(r *rand.Rand, nodes int) expr.Node {
	switch {
	case nodes == 1 && r.Intn(3) == 0:
		return num([]int64{0, 1, 2, 3, 7, 100, api.Most, r.Int63()}[r.Intn(8)])
	case nodes == 1:
		return name([]string{"a", "b", "c", "d", "where", "and", "top"}[r.Intn(7)])
	case nodes == 2 || r.Intn(4) == 0:
		return neg(made(r, nodes-1))
	}
	left := 1 + r.Intn(nodes-2)
	return two(made(r, left), []string{"+", "-", "*", "/", "%"}[r.Intn(5)], made(r, nodes-1-left))
}

// few answers a small count of Nodes, most often; now and then any that may be.
func few(r *rand.Rand) int {
	if r.Intn(8) == 0 {
		return 1 + r.Intn(32)
	}
	return 1 + r.Intn(4)
}

func madeAgg(r *rand.Rand) agg.Agg {
	a := agg.Agg{Func: funcs[r.Intn(len(funcs))]}
	if a.Func == "top" {
		a.K = 1 + r.Int63n(16)
	}
	if a.Func != "count" {
		a.E = made(r, few(r))
	}
	if a.Func == "first" {
		a.By = made(r, few(r))
	}
	for range max(0, r.Intn(8)-3) {
		a.Where = append(a.Where, agg.Cond{Op: signs[r.Intn(6)], A: made(r, few(r)), B: made(r, few(r))})
	}
	return a
}

// TestP1101ManyTexts holds made-up Aggs, their texts cut, and with words put in,
// left out, changed and turned.
func TestP1101ManyTexts(t *testing.T) {
	r := rand.New(rand.NewSource(11))
	words := append(append([]string{"a", "0", "1", "16", "17", "(", ")", ",", "-", "+", "where", "and", "avg"}, funcs...), signs...)
	for range 6000 {
		a := madeAgg(r)
		holdsAgg(t, a)
		s := agg.Text(a)
		holds(t, s)
		holds(t, s[:r.Intn(len(s))])
		l, _, _ := lex.Tokens(s)
		for range 6 {
			var w []string
			for _, x := range l {
				w = append(w, x.Text)
			}
			w = append(w, "")
			for range 1 + r.Intn(2) {
				i, j := r.Intn(len(w)), r.Intn(len(w))
				switch r.Intn(4) {
				case 0:
					w[i] = words[r.Intn(len(words))]
				case 1:
					w[i] = ""
				case 2:
					w[i], w[j] = w[j], w[i]
				case 3:
					w[i] += " " + words[r.Intn(len(words))]
				}
			}
			holds(t, strings.Join(w, strings.Repeat(" ", 1+r.Intn(2))))
		}
	}
}

func TestP1101Text(t *testing.T) {
	for want, a := range map[string]agg.Agg{
		"count()":                       {Func: "count"},
		"min(a)":                        {Func: "min", E: name("a")},
		"max(-7)":                       {Func: "max", E: neg(num(7))},
		"sum((a + (b * 2)))":            {Func: "sum", E: node("a+b*2")},
		"first(a, b)":                   {Func: "first", E: name("a"), By: name("b")},
		"first((a - 1), -b)":            {Func: "first", E: node("a-1"), By: node("-b")},
		"top(16, a)":                    {Func: "top", K: 16, E: name("a")},
		"count() where a = 1":           {Func: "count", Where: conds("a = 1")},
		"min(a) where a <= 1 and 2 > b": {Func: "min", E: name("a"), Where: conds("a <= 1", "2 > b")},
		"top(1, a) where (a + 1) != (b % 2) and a >= 1 and -a < 1 and a = b": {Func: "top", K: 1, E: name("a"), Where: conds("a+1 != b%2", "a >= 1", "-a < 1", "a = b")},
	} {
		if s := agg.Text(a); s != want {
			t.Errorf("P1101: Text: %q, not %q", s, want)
		}
		holdsAgg(t, a)
	}
	// What the Func doesn't have isn't told.
	all := agg.Agg{K: 5, E: name("a"), By: name("b")}
	for _, c := range [][2]string{{"count", "count()"}, {"min", "min(a)"}, {"max", "max(a)"}, {"sum", "sum(a)"}, {"first", "first(a, b)"}, {"top", "top(5, a)"}} {
		all.Func = c[0]
		if s := agg.Text(all); s != c[1] {
			t.Errorf("P1101: Text: %q, not %q", s, c[1])
		}
	}
}

func TestP1101CheckFunc(t *testing.T) {
	bad := num(-1)
	for _, f := range []string{"", "avg", "Count", "count ", "counts", "coun", "where", "and", "num", "min(", "\x00", "=", "+"} {
		for _, a := range []agg.Agg{{}, {K: -1, E: bad, By: bad, Where: make([]agg.Cond, 5)}, {K: 3, E: name("a"), By: name("a")}} {
			a.Func = f
			if e := agg.Check(a); e != api.ErrName {
				t.Errorf("P1101: Check of the Func %q: %v", f, e)
			}
		}
	}
	for _, f := range funcs {
		if e := agg.Check(agg.Agg{Func: f, K: 1, E: name("a"), By: name("a")}); e != api.OK {
			t.Errorf("P1101: Check of the Func %q: %v", f, e)
		}
	}
}

// TestP1101CheckAll holds all Funcs, numbers and expressions that may be, and may
// not be, in the order in which they count.
func TestP1101CheckAll(t *testing.T) {
	ks := map[int64]api.Errno{api.Least: api.ErrArg, -1: api.ErrArg, 0: api.ErrArg, 1: api.OK, 2: api.OK, 16: api.OK, 17: api.ErrArg, 1<<32 + 1: api.ErrArg, api.Most: api.ErrArg}
	nodes := []expr.Node{name("a"), negs(31, num(0)), {}, num(-1), name("A"), negs(32, num(0)), {Op: "+", Kids: []expr.Node{num(1)}}, {Op: "="}}
	wheres := map[api.Errno][]agg.Cond{api.OK: nil, api.ErrLong: conds("a = 1", "a = 1", "a = 1", "a = 1", "a = 1"), api.ErrName: {{Op: "+", A: name("a"), B: name("a")}}}
	for _, f := range funcs {
		for k, ofK := range ks {
			for _, n := range nodes {
				for _, by := range nodes {
					for ofWhere, where := range wheres {
						var want api.Errno
						first := func(e api.Errno, has ...string) {
							if want == api.OK && slices.Contains(has, f) {
								want = e
							}
						}
						first(ofK, "top")
						first(expr.Check(n), "min", "max", "sum", "first", "top")
						first(expr.Check(by), "first")
						first(ofWhere, funcs...)
						a := agg.Agg{Func: f, K: k, E: n, By: by, Where: where}
						if e := agg.Check(a); e != want {
							t.Errorf("P1101: Check(%v): %v, not %v", a, e, want)
						}
					}
				}
			}
		}
	}
}

func TestP1101CheckConds(t *testing.T) {
	ok := agg.Cond{Op: "=", A: name("a"), B: num(1)}
	unnamed, arg, form, long := name("A"), num(-1), expr.Node{}, negs(32, num(1))
	for i, c := range []struct {
		want  api.Errno
		where []agg.Cond
	}{
		{api.OK, []agg.Cond{}},
		{api.OK, []agg.Cond{ok}},
		{api.OK, []agg.Cond{ok, ok, ok, ok}},
		{api.ErrLong, []agg.Cond{ok, ok, ok, ok, ok}},
		{api.ErrLong, []agg.Cond{{}, ok, ok, ok, ok}},
		{api.ErrLong, make([]agg.Cond, 1000)},
		{api.ErrName, make([]agg.Cond, 4)},
		{api.ErrName, []agg.Cond{{Op: "", A: name("a"), B: num(1)}}},
		{api.ErrName, []agg.Cond{{Op: "==", A: arg, B: form}}},
		{api.ErrName, []agg.Cond{ok, ok, ok, {Op: "+", A: name("a"), B: num(1)}}},
		{api.ErrName, []agg.Cond{{Op: "=", A: unnamed, B: arg}}},
		{api.ErrArg, []agg.Cond{{Op: "=", A: arg, B: unnamed}}},
		{api.ErrForm, []agg.Cond{{Op: "=", A: form, B: arg}}},
		{api.ErrLong, []agg.Cond{{Op: "=", A: long, B: arg}}},
		{api.ErrName, []agg.Cond{{Op: "=", A: num(1), B: unnamed}}},
		{api.ErrArg, []agg.Cond{{Op: "<", A: num(1), B: arg}}},
		{api.ErrForm, []agg.Cond{{Op: "<=", A: num(1)}}},
		{api.ErrLong, []agg.Cond{{Op: "!=", A: num(1), B: long}}},
		// Of several conditions the first one that has an error counts.
		{api.ErrArg, []agg.Cond{ok, {Op: "=", A: num(1), B: arg}, {Op: "+", A: num(1), B: num(1)}}},
		{api.ErrForm, []agg.Cond{ok, ok, {Op: "=", B: arg}, {Op: "+"}}},
		{api.ErrName, []agg.Cond{{Op: "+", A: num(1), B: num(1)}, {Op: "=", A: arg}}},
		{api.ErrArg, []agg.Cond{{Op: ">", A: arg, B: num(1)}, {Op: "=", A: unnamed, B: num(1)}}},
	} {
		for _, f := range funcs {
			if e := agg.Check(agg.Agg{Func: f, K: 1, E: name("a"), By: name("a"), Where: c.where}); e != c.want {
				t.Errorf("P1101: Check of the conditions %d: %v, not %v", i, e, c.want)
			}
		}
	}
	for _, op := range append([]string{"=<", "<>", "!", "a", "and", "= ", "eq", "≠", "num"}, "-", "*", "/", "%", "(", ",") {
		if e := agg.Check(agg.Agg{Func: "count", Where: []agg.Cond{{Op: op, A: num(1), B: num(1)}}}); e != api.ErrName {
			t.Errorf("P1101: Check of the Op %q: %v", op, e)
		}
	}
}

// TestP1101Same: of Aggs that may be those are alike of which the Text is.
func TestP1101Same(t *testing.T) {
	var all []agg.Agg
	wheres := [][]agg.Cond{nil, {}, conds("a = 1"), conds("a != 1"), conds("b = 1"), conds("a = 2"), conds("1 = a"), conds("a = 1", "a = 1"), conds("a = 1", "b = 2"), conds("b = 2", "a = 1"), conds("a = 1", "a = 1", "a = 1", "a = 1")}
	for _, f := range funcs {
		for _, k := range []int64{1, 2, 16} {
			for _, n := range []expr.Node{name("a"), name("b"), node("a+1")} {
				for _, by := range []expr.Node{name("a"), name("c")} {
					for _, where := range wheres {
						all = append(all, agg.Agg{Func: f, K: k, E: n, By: by, Where: where})
					}
				}
			}
		}
	}
	texts := make([]string, len(all))
	for i, a := range all {
		texts[i] = text(a)
	}
	for i, a := range all {
		for j, b := range all {
			if got := agg.Same(a, b); got != (texts[i] == texts[j]) {
				t.Fatalf("P1101: Same(%v, %v): %v", a, b, got)
			}
		}
	}
}

// TestP1101SameAsFarAsNamed: what a Func doesn't have doesn't count, even if it may not be.
func TestP1101SameAsFarAsNamed(t *testing.T) {
	odd := expr.Node{Op: "^"}
	has := map[string]string{"count": "", "min": "E", "max": "E", "sum": "E", "first": "E By", "top": "E K"}
	for _, f := range funcs {
		a := agg.Agg{Func: f, K: 2, E: name("a"), By: name("b")}
		for part, b := range map[string]agg.Agg{
			"K": {Func: f, K: -3, E: name("a"), By: name("b")}, "E": {Func: f, K: 2, E: odd, By: name("b")}, "By": {Func: f, K: 2, E: name("a"), By: odd},
		} {
			if want := !strings.Contains(has[f], part); agg.Same(a, b) != want || agg.Same(b, a) != want {
				t.Errorf("P1101: Same of %s and another %s, or turned: not %v", f, part, want)
			}
		}
	}
	// Nor does what an Op doesn't have.
	a := agg.Agg{Func: "min", E: num(1), Where: []agg.Cond{{Op: "=", A: num(1), B: name("a")}}}
	b := agg.Agg{Func: "min", E: expr.Node{Op: "num", N: 1, Name: "x"}, Where: []agg.Cond{{Op: "=", A: expr.Node{Op: "num", N: 1, Name: "x"}, B: expr.Node{Op: "name", Name: "a", N: 9}}}}
	if !agg.Same(a, b) || !agg.Same(b, a) {
		t.Errorf("P1101: Same of what differs in what doesn't count: false")
	}
}

func number(s string, n int64) row.Attr {
	return row.Attr{Name: s, Value: value.Value{Kind: api.Int, I: n}}
}

// rows answers rows of the attributes a, b, c: a text each, a number or a `.` for
// each attribute.
func rows(all ...string) [][]row.Attr {
	var l [][]row.Attr
	for _, s := range all {
		var r []row.Attr
		for i, w := range strings.Fields(s) {
			if v, e := value.Parse(w); e == api.OK {
				r = append(r, row.Attr{Name: "abc"[i : i+1], Value: v})
			}
		}
		l = append(l, r)
	}
	return l
}

// cut answers n within 64 bits.
func cut(n *big.Int) int64 {
	switch {
	case n.IsInt64():
		return n.Int64()
	case n.Sign() < 0:
		return api.Least
	}
	return api.Most
}

// worth is a second writing of Eval, of an a that may be, told as a text: what each
// row gives is laid in lists, and these are sorted; empty: nothing.
func worth(a agg.Agg, l [][]row.Attr) string {
	var kept [][]row.Attr
	for _, r := range l {
		all := true
		for _, c := range a.Where {
			x, ok := calc.Eval(c.A, r)
			y, too := calc.Eval(c.B, r)
			all = all && ok && too && strings.Contains(map[string]string{"=": "0", "!=": "-1 +1", "<": "-1", "<=": "-1 0", ">": "+1", ">=": "+1 0"}[c.Op], []string{"-1", "0", "+1"}[1+big.NewInt(x).Cmp(big.NewInt(y))])
		}
		if all {
			kept = append(kept, r)
		}
	}
	var es []int64
	var pairs [][2]int64
	sum := int64(0)
	for _, r := range kept {
		e, ok := calc.Eval(a.E, r)
		by, too := calc.Eval(a.By, r)
		if ok {
			es = append(es, e)
			sum = cut(new(big.Int).Add(big.NewInt(sum), big.NewInt(e)))
		}
		if ok && too {
			pairs = append(pairs, [2]int64{by, e})
		}
	}
	slices.Sort(es)
	slices.SortStableFunc(pairs, func(a, b [2]int64) int { return big.NewInt(a[0]).Cmp(big.NewInt(b[0])) })
	switch {
	case a.Func == "count":
		return fmt.Sprint(len(kept))
	case a.Func == "sum":
		return fmt.Sprint(sum)
	case a.Func == "top":
		es = slices.Compact(es)
		return fmt.Sprint(es[max(0, len(es)-int(a.K)):])
	case a.Func == "first" && len(pairs) > 0:
		return fmt.Sprint(pairs[0][1])
	case a.Func == "min" && len(es) > 0:
		return fmt.Sprint(es[0])
	case a.Func == "max" && len(es) > 0:
		return fmt.Sprint(es[len(es)-1])
	}
	return ""
}

// evals wants of a what is told; "": that there is nothing.
func evals(t *testing.T, a agg.Agg, l [][]row.Attr, want string) {
	t.Helper()
	v, ok := agg.Eval(a, l)
	if value.Text(v) != want || ok != (want != "") {
		t.Errorf("P1101: Eval(%s) of %v: %v, %v, not %s", agg.Text(a), l, v, ok, want)
	}
	if !ok && !reflect.DeepEqual(v, value.Value{}) {
		t.Errorf("P4: Eval(%s): %v beside a false", agg.Text(a), v)
	}
	if ok && (value.Check(v) != api.OK || v.S != "" || v.Kind == api.Int && v.L != nil || v.Kind == api.List && v.I != 0) {
		t.Errorf("P4: Eval(%s): %v", agg.Text(a), v)
	}
}

func is(t *testing.T, want string, l [][]row.Attr, all ...string) {
	t.Helper()
	for _, s := range all {
		a := parsed(t, s)
		evals(t, a, l, want)
		if second := worth(a, l); second != want {
			t.Errorf("P1101: %s: the second writing tells %s, not %s", s, second, want)
		}
	}
}

// five are rows in which some lack something, and some are alike.
func five() [][]row.Attr { return rows("3 1", "-2 5 1", ". 0 2", "3 1 3", "9") }

func TestP1101EvalCount(t *testing.T) {
	is(t, "0", nil, "count()", "count() where 1=1")
	is(t, "1", rows(""), "count()", "count() where 1=1")
	is(t, "3", rows("", ".", "1"), "count()")
	is(t, "5", five(), "count()", "count() where 1=1", "count() where 0<1 and 1<2 and 2<3 and 3<4")
	is(t, "4", five(), "count() where a=a", "count() where a<10", "count() where b=b")
	is(t, "2", five(), "count() where a=3", "count() where a>2 and a<9", "count() where b=1 and a=3")
	is(t, "0", five(), "count() where 1=0", "count() where a=4", "count() where 1/0=1", "count() where z=z", "count() where a=3 and a=9")
	is(t, "100000", make([][]row.Attr, 100000), "count()")
}

func TestP1101EvalMinMaxSum(t *testing.T) {
	is(t, "", nil, "min(a)", "max(a)", "min(1)", "max(1)")
	is(t, "", rows("", ". 1", ". . 1"), "min(a)", "max(a)", "min(a+b)", "max(1/0)")
	is(t, "0", nil, "sum(a)", "sum(1)")
	is(t, "0", rows("", ". 1"), "sum(a)", "sum(1/0)", "sum(a) where b=1", "sum(b) where a=1")
	is(t, "-2", five(), "min(a)", "min(a) where c=1", "max(a) where c=1", "sum(a) where c=1")
	is(t, "9", five(), "max(a)", "min(a) where a>3", "sum(a) where a>3", "max(9)")
	is(t, "3", five(), "max(c)", "max(a) where c>0", "min(a) where a>0", "min(a+b)", "min(3)")
	is(t, "13", five(), "sum(a)", "sum(a) where 1=1")
	is(t, "-9", five(), "min(-a)", "sum(-a) where a=9")
	is(t, "7", five(), "sum(b)", "min(7)")
	is(t, "-5", rows("-5", "-3", "-4"), "min(a)")
	is(t, "-3", rows("-5", "-3", "-4"), "max(a)")
	is(t, "-12", rows("-5", "-3", "-4"), "sum(a)")
	is(t, "0", rows("0"), "min(a)", "max(a)", "sum(a)", "min(-a)")
	is(t, "5", make([][]row.Attr, 5), "sum(1)")
}

// TestP1101EvalEdges: the ends of 64 bits are numbers as others are.
func TestP1101EvalEdges(t *testing.T) {
	most, least := "9223372036854775807", "-9223372036854775808"
	is(t, most, rows(most), "min(a)", "max(a)", "sum(a)", "first(a,a)", "first(a,-a)")
	is(t, least, rows(least), "min(a)", "max(a)", "sum(a)", "first(a,a)", "first(a,-a)")
	is(t, least, rows(most, "0", least), "min(a)", "first(a,a)")
	is(t, most, rows(most, "0", least), "max(a)", "first(a,-a)", "first(a,0)")
	is(t, most, rows(least+" "+least, most+" "+most), "max(b)", "first(a,0-b)")
	is(t, "["+least+" 0 "+most+"]", rows(most, least, "0", most, least), "top(3,a)", "top(16,a)")
	is(t, "[0 "+most+"]", rows(most, least, "0"), "top(2,a)")
	is(t, "2", rows("1 -"+most, "2 "+least), "first(a,b)")
	is(t, "2", rows("1 "+least, "2 "+most), "first(a,-b)")
	// -Least is cut to Most, and so is as good as -(-Most).
	is(t, "1", rows("1 -"+most, "2 "+least), "first(a,-b)")
	is(t, "2", rows("2 "+least, "1 -"+most), "first(a,-b)")
}

// TestP1101EvalSumRowByRow: a sum is cut at each row, not at the end.
func TestP1101EvalSumRowByRow(t *testing.T) {
	most, least := "9223372036854775807", "-9223372036854775808"
	is(t, "9223372036854775806", rows(most, "1", "-1"), "sum(a)")
	is(t, most, rows(most, "-1", "1"), "sum(a)")
	is(t, most, rows("1", most), "sum(a)")
	is(t, "-1", rows(most, most, least), "sum(a)")
	is(t, most, rows(most, least, most, "1"), "sum(a) where a>0", "max(a)")
	is(t, "-9223372036854775807", rows(least, "-1", "1"), "sum(a)")
	is(t, least, rows("-1", least), "sum(a)")
	is(t, "0", rows(least, "1", most), "sum(a)")
}

func TestP1101EvalFirst(t *testing.T) {
	is(t, "", nil, "first(a,b)", "first(1,1)")
	is(t, "", rows("1", ". 1", ""), "first(a,b)", "first(b,a)", "first(1,1/0)", "first(1/0,1)")
	is(t, "3", five(), "first(a,b)", "first(a,0)", "first(a,b*0)", "first(a,c-4) where c>1", "first(c,-c)")
	is(t, "2", five(), "first(c,b)", "first(c,c) where b=0", "first(c,-c) where c<3")
	is(t, "1", five(), "first(c,-b)", "first(c,a)", "first(b,-a)")
	is(t, "5", five(), "first(b,a)", "first(b,c)")
	is(t, "9", five(), "first(a,-a)", "first(a,10-a)")
	is(t, "", five(), "first(a,b) where a=9", "first(a,c) where b=0")
	// Of those that are as good the first one; whatever its E is.
	is(t, "7", rows("7 1", "5 1", "9 1"), "first(a,b)")
	is(t, "5", rows("7 2", "5 1", "9 1"), "first(a,b)", "first(a,a)")
	is(t, "9", rows("7 2", "5 3", "9 1"), "first(a,b)")
	is(t, "5", rows(". 0", "5 1", "9 1"), "first(a,b)")
	is(t, "9", rows("7 0", "5 .", "9 -1"), "first(a,b)")
	is(t, "8", rows("7 0 0", "8 1 1", "9 1 1"), "first(a,b) where c=1")
}

func TestP1101EvalTop(t *testing.T) {
	is(t, "[]", nil, "top(1,a)", "top(16,1)")
	is(t, "[]", rows("", ". 1"), "top(3,a)", "top(3,b) where a=1", "top(3,1/0)")
	is(t, "[9]", five(), "top(1,a)", "top(16,9)", "top(2,a) where a=9")
	is(t, "[3 9]", five(), "top(2,a)")
	is(t, "[-2 3 9]", five(), "top(3,a)", "top(4,a)", "top(16,a)")
	is(t, "[-2 3]", five(), "top(3,a) where c>0", "top(2,a) where a<9")
	is(t, "[-3 2]", five(), "top(2,-a)")
	is(t, "[5]", rows("5", "5", "5"), "top(1,a)", "top(2,a)", "top(16,a)")
	is(t, "[4 5]", rows("5", "4", "5", "4", "3", "3"), "top(2,a)")
	is(t, "[4 5]", rows("3", "3", "4", "4", "5", "5"), "top(2,a)")
	is(t, "[0]", rows("0"), "top(3,a)")
	// 40 that are unlike, put in up, down and mixed.
	for _, by := range []int{1, 39, 7, 31} {
		var l [][]row.Attr
		for i := range 80 {
			l = append(l, []row.Attr{number("a", int64(i*by%40))})
		}
		is(t, "[24 25 26 27 28 29 30 31 32 33 34 35 36 37 38 39]", l, "top(16,a)")
		is(t, "[25 26 27 28 29 30 31 32 33 34 35 36 37 38 39]", l, "top(15,a)")
		is(t, "[39]", l, "top(1,a)")
		is(t, "[-2 -1 0]", l, "top(3,-a)")
	}
}

func TestP1101EvalConds(t *testing.T) {
	l := rows("1", "2", "3", "4", "5")
	for s, want := range map[string]string{"a=3": "1", "a!=3": "4", "a<3": "2", "a<=3": "3", "a>3": "2", "a>=3": "3", "3=a": "1", "3<a": "2", "3<=a": "3", "3>a": "2", "3>=a": "3"} {
		is(t, want, l, "count() where "+s, "count() where 1=1 and "+s, "count() where "+s+" and "+s, "count() where 1=1 and 1<2 and a=a and "+s)
		is(t, "0", l, "count() where "+s+" and 1=2", "count() where 2=1 and "+s, "count() where z=z and "+s, "count() where "+s+" and 1/0=1 and 1=1")
	}
	// What is nothing holds not, whatever the sign is.
	for _, op := range signs {
		is(t, "0", l, "count() where z"+op+"0", "count() where 0"+op+"z", "count() where z"+op+"z", "count() where 1/0"+op+"a%0", "sum(a) where a"+op+"b")
	}
	is(t, "0", [][]row.Attr{{{Name: "a", Value: value.Value{Kind: api.Text, S: "1"}}, {Name: "b", Value: value.Value{Kind: api.List, L: []int64{1}}}}}, "count() where a=a", "count() where b=b", "count() where a!=b", "sum(a)", "sum(b)")
	is(t, "6", l, "sum(a) where a!=4 and a<5 and a>0")
	is(t, "[2 4]", l, "top(5,a) where a%2=0")
	is(t, "4", l, "max(a) where a%2=0", "first(a,-a) where a%2=0")
}

// TestP1101EvalMany holds made-up Aggs over made-up rows.
func TestP1101EvalMany(t *testing.T) {
	r := rand.New(rand.NewSource(110))
	there := map[string]int{}
	for range 20000 {
		var l [][]row.Attr
		for range r.Intn(40) {
			var m []row.Attr
			for _, s := range []string{"a", "and", "b", "c", "d", "top", "where"} {
				switch r.Intn(12) {
				case 0:
				case 1:
					m = append(m, row.Attr{Name: s, Value: value.Value{Kind: api.Text, S: "1"}})
				case 2:
					m = append(m, row.Attr{Name: s, Value: value.Value{Kind: api.List, L: []int64{1}}})
				case 3:
					m = append(m, number(s, []int64{api.Most, api.Least, 0, api.Most - 1}[r.Intn(4)]))
				default:
					m = append(m, number(s, r.Int63n(30)-10))
				}
			}
			l = append(l, m)
		}
		a := madeAgg(r)
		want := worth(a, l)
		evals(t, a, l, want)
		if want != "" && want != "0" && want != "[]" {
			there[a.Func]++
		}
	}
	for _, f := range funcs {
		if there[f] < 1000 {
			t.Errorf("only %d of %s are something", there[f], f)
		}
	}
}

// TestP1101EvalAsFarAsNamed: what a Func doesn't have doesn't count, even if it may not be.
func TestP1101EvalAsFarAsNamed(t *testing.T) {
	odd := expr.Node{Op: "^"}
	evals(t, agg.Agg{Func: "count", K: -1, E: odd, By: odd}, five(), "5")
	evals(t, agg.Agg{Func: "count", E: name("z"), By: name("z")}, five(), "5")
	evals(t, agg.Agg{Func: "min", K: -1, E: name("a"), By: odd}, five(), "-2")
	evals(t, agg.Agg{Func: "max", K: 99, E: name("a"), By: odd}, five(), "9")
	evals(t, agg.Agg{Func: "sum", E: name("a"), By: name("z")}, five(), "13")
	evals(t, agg.Agg{Func: "first", K: -1, E: name("a"), By: name("b")}, five(), "3")
	evals(t, agg.Agg{Func: "top", K: 2, E: name("a"), By: odd}, five(), "[3 9]")
}

// endless are Nodes that hold themselves, or so many others that nobody goes through them.
func endless() []expr.Node {
	wide := num(1)
	for range 80 {
		wide = two(wide, "+", wide)
	}
	self := neg(num(1))
	self.Kids[0] = self
	return []expr.Node{wide, self, negs(1000000, num(1)), {Op: "num", N: 1, Kids: make([]expr.Node, 1<<20)}}
}

// TestP1AnyAgg: of what Check refuses all else ends, and Eval is nothing.
func TestP1AnyAgg(t *testing.T) {
	bad := append([]expr.Node{{}, num(-1), name(""), {Op: "+"}}, endless()...)
	var all []agg.Agg
	for _, f := range append([]string{"", "avg", "\xff"}, funcs...) {
		for _, n := range bad {
			all = append(all, agg.Agg{Func: f, K: 1, E: n, By: name("a")}, agg.Agg{Func: f, K: 1, E: name("a"), By: n},
				agg.Agg{Func: f, K: 1, E: name("a"), By: name("a"), Where: []agg.Cond{{Op: "=", A: n, B: num(1)}}}, agg.Agg{Func: f, K: 1, E: name("a"), By: name("a"), Where: []agg.Cond{{Op: "=", A: num(1), B: n}}})
		}
		for _, k := range []int64{api.Least, -1, 0, 17, 1 << 40, api.Most} {
			all = append(all, agg.Agg{Func: f, K: k, E: name("a"), By: name("a")})
		}
		all = append(all, agg.Agg{Func: f, K: 1, E: name("a"), By: name("a"), Where: make([]agg.Cond, 100000)}, agg.Agg{Func: f, K: 1, E: name("a"), By: name("a"), Where: []agg.Cond{{Op: "?", A: num(1), B: num(1)}}})
	}
	for _, a := range all {
		v, ok := agg.Eval(a, five())
		if ok != (agg.Check(a) == api.OK) || !ok && !reflect.DeepEqual(v, value.Value{}) {
			t.Errorf("P1: Eval of %.60s: %v, %v", agg.Text(a), v, ok)
		}
		if agg.Text(a) != agg.Text(a) || agg.Same(a, a) != agg.Same(a, a) {
			t.Errorf("P3: of %.60s", agg.Text(a))
		}
		agg.Same(a, agg.Agg{})
		agg.Same(agg.Agg{Func: a.Func}, a)
	}
}

// TestP1AnyRows: rows that may not be are gone through without harm.
func TestP1AnyRows(t *testing.T) {
	l := [][]row.Attr{nil, make([]row.Attr, 100), {number("b", 1), number("a", 2)}, {number("a", 1), number("a", 2), number("a", 3)}, {{Name: "a", Value: value.Value{Kind: 99, I: 3}}}, slices.Repeat([]row.Attr{number("A B", 1)}, 1000)}
	for _, s := range []string{"count()", "min(a)", "max(a)", "sum(a)", "first(a,a)", "top(3,a)", "count() where a=a"} {
		a := parsed(t, s)
		v, ok := agg.Eval(a, l)
		if w, too := agg.Eval(a, l); !value.Same(v, w) || ok != too {
			t.Errorf("P3: Eval(%s): %v, %v, then %v, %v", s, v, ok, w, too)
		}
	}
}

// TestP1AnyText: whatever it is given, Parse ends.
func TestP1AnyText(t *testing.T) {
	r := rand.New(rand.NewSource(1))
	for n := range 1100 {
		b := make([]byte, n)
		for i := range b {
			b[i] = byte(r.Intn(256))
		}
		holds(t, string(b))
		for i := range b {
			b[i] = "countmifsp (),=<->where1"[r.Intn(24)]
		}
		holds(t, string(b))
		holds(t, "count() where "+string(b))
	}
	holds(t, "min("+strings.Repeat("(", 1000))
	holds(t, "min("+strings.Repeat("(", 500)+"a"+strings.Repeat(")", 501))
}

// lists answers all lists of Nodes in n, their spare room too.
func lists(n expr.Node) [][]expr.Node {
	all := [][]expr.Node{n.Kids[:cap(n.Kids)]}
	for _, k := range all[0] {
		all = append(all, lists(k)...)
	}
	return all
}

func TestP2AnswersOfParseAreNewMemory(t *testing.T) {
	for _, s := range []string{"first(a+b,-a) where a+1=b*2 and -a<-b and a!=1", "top(3,a+b) where a=1", "sum(-a)", "count() where a=1 and a=1 and a=1 and a=1"} {
		a, b := parsed(t, s), parsed(t, s)
		was := text(b)
		seen := map[*expr.Node]bool{}
		all := append(lists(a.E), lists(a.By)...)
		where := a.Where[:cap(a.Where)]
		for _, c := range where {
			all = append(append(all, lists(c.A)...), lists(c.B)...)
		}
		for _, l := range all {
			for i := range l {
				if seen[&l[i]] {
					t.Errorf("P2: two lists of an answer of Parse(%q) share", s)
				}
				seen[&l[i]] = true
			}
		}
		for _, l := range all {
			for i := range l {
				l[i] = expr.Node{Op: "spoilt"}
			}
		}
		for i := range where {
			where[i] = agg.Cond{Op: "spoilt"}
		}
		if text(b) != was || text(parsed(t, s)) != was {
			t.Errorf("P2: two answers of Parse(%q) share", s)
		}
	}
}

func TestP2AnswersOfEvalAreNewMemory(t *testing.T) {
	a := parsed(t, "top(2,a)")
	v, _ := agg.Eval(a, five())
	w, _ := agg.Eval(a, five())
	for i := range v.L[:cap(v.L)] {
		v.L[:cap(v.L)][i] = 77
	}
	x, _ := agg.Eval(a, five())
	if value.Text(w) != "[3 9]" || value.Text(x) != "[3 9]" {
		t.Errorf("P2: two answers of Eval share: %v, %v", w, x)
	}
}

func TestP2LeavesWhatIsHandedIn(t *testing.T) {
	given := func() (agg.Agg, [][]row.Attr, []agg.Cond, []expr.Node) {
		where := append(conds("a+1 > b", "b >= 0"), agg.Cond{Op: "spare"})
		kids := []expr.Node{name("b"), name("a"), name("spare")}
		l := append(five(), rows("99 99")...)
		l[0] = append(l[0], number("z", 9))
		return agg.Agg{Func: "top", K: 2, E: expr.Node{Op: "+", Kids: kids[:2]}, By: name("a"), Where: where[:2]}, l, where, kids
	}
	a, l, where, kids := given()
	wantA, wantL, wantWhere, wantKids := given()
	for _, f := range funcs {
		a.Func, wantA.Func = f, f
		agg.Eval(a, l[:len(l)-1])
		agg.Text(a)
		agg.Check(a)
		agg.Same(a, a)
		if !reflect.DeepEqual(a, wantA) || !reflect.DeepEqual(l, wantL) || !reflect.DeepEqual(where, wantWhere) || !reflect.DeepEqual(kids, wantKids) {
			t.Errorf("P2: what is handed in is another: %v, %v", a, l)
		}
	}
}

// TestP3TheSameAgain: nothing of one call is there in the next.
func TestP3TheSameAgain(t *testing.T) {
	for i := range 50 {
		l := five()[:i%6]
		for _, s := range []string{"count()", "min(a)", "max(b)", "sum(c)", "first(a,b)", "top(2,a)"} {
			a := parsed(t, s)
			evals(t, a, l, worth(a, l))
		}
		refuses(t, api.ErrName, 0, "avg(a)")
	}
}
