package calc_test

import (
	"math/big"
	"math/rand"
	"reflect"
	"slices"
	"strings"
	"testing"

	"canton/api"
	"canton/calc"
	"canton/expr"
	"canton/row"
	"canton/value"
)

var signs = []string{"+", "-", "*", "/", "%"}

// edges are the numbers at which one is cut, or halved, or changes its sign.
var edges = []int64{api.Least, api.Least + 1, api.Least + 2, api.Least / 2, api.Least/2 - 1, -1 << 32, -3037000500, -10, -7, -3, -2, -1, 0, 1, 2, 3, 7, 10, 3037000499, 3037000500, 1 << 31, 1 << 32, api.Most / 2, api.Most/2 + 1, api.Most - 2, api.Most - 1, api.Most}

func num(n int64) expr.Node { return expr.Node{Op: "num", N: n} }

func name(s string) expr.Node { return expr.Node{Op: "name", Name: s} }

func neg(a expr.Node) expr.Node { return expr.Node{Op: "neg", Kids: []expr.Node{a}} }

func two(a expr.Node, op string, b expr.Node) expr.Node {
	return expr.Node{Op: op, Kids: []expr.Node{a, b}}
}

func negs(many int, n expr.Node) expr.Node {
	for range many {
		n = neg(n)
	}
	return n
}

func number(s string, n int64) row.Attr {
	return row.Attr{Name: s, Value: value.Value{Kind: api.Int, I: n}}
}

func text(s, in string) row.Attr {
	return row.Attr{Name: s, Value: value.Value{Kind: api.Text, S: in}}
}

func list(s string, l ...int64) row.Attr {
	return row.Attr{Name: s, Value: value.Value{Kind: api.List, L: l}}
}

// parse answers the expression that s must be.
func parse(t *testing.T, s string) expr.Node {
	t.Helper()
	n, _, e := expr.Parse(s)
	if e != api.OK {
		t.Fatalf("Parse(%q): %v", s, e)
	}
	return n
}

// cut answers n within 64 bits.
func cut(n *big.Int) *big.Int {
	switch {
	case n.IsInt64():
		return n
	case n.Sign() < 0:
		return big.NewInt(api.Least)
	}
	return big.NewInt(api.Most)
}

// worth is a second writing of Eval, of n that may be: in numbers of any size, cut
// at each Op; nil where there is nothing. The names are looked up one by one.
func worth(n expr.Node, l []row.Attr) *big.Int {
	if n.Op == "num" {
		return big.NewInt(n.N)
	}
	if n.Op == "name" {
		for _, a := range l {
			if a.Name == n.Name && a.Value.Kind == 1 {
				return big.NewInt(a.Value.I)
			}
		}
		return nil
	}
	var kids []*big.Int
	for _, k := range n.Kids {
		w := worth(k, l)
		if w == nil {
			return nil
		}
		kids = append(kids, w)
	}
	a := kids[0]
	if n.Op == "neg" {
		return cut(new(big.Int).Neg(a))
	}
	b := kids[1]
	if b.Sign() == 0 && (n.Op == "/" || n.Op == "%") {
		return nil
	}
	return cut(map[string]func(a, b *big.Int) *big.Int{
		"+": new(big.Int).Add, "-": new(big.Int).Sub, "*": new(big.Int).Mul, "/": new(big.Int).Quo, "%": new(big.Int).Rem,
	}[n.Op](a, b))
}

// holds wants of n what the second writing answers.
func holds(t *testing.T, n expr.Node, l []row.Attr) {
	t.Helper()
	x, ok := calc.Eval(n, l)
	want := worth(n, l)
	if ok != (want != nil) || want != nil && x != want.Int64() {
		t.Errorf("P1001: Eval(%s): %d, %v, not %v", expr.Text(n), x, ok, want)
	}
	if !ok && x != 0 {
		t.Errorf("P4: Eval(%s): %d beside a false", expr.Text(n), x)
	}
}

func is(t *testing.T, want int64, l []row.Attr, all ...string) {
	t.Helper()
	for _, s := range all {
		n := parse(t, s)
		if x, ok := calc.Eval(n, l); x != want || !ok {
			t.Errorf("P1001: Eval(%s): %d, %v, not %d", s, x, ok, want)
		}
		holds(t, n, l)
	}
}

func isNothing(t *testing.T, l []row.Attr, all ...string) {
	t.Helper()
	for _, s := range all {
		n := parse(t, s)
		if x, ok := calc.Eval(n, l); x != 0 || ok {
			t.Errorf("P1001: Eval(%s): %d, %v, not false", s, x, ok)
		}
		holds(t, n, l)
	}
}

// attrs are of each Kind, and of what is no Kind.
func attrs() []row.Attr {
	return []row.Attr{
		number("a", 7), number("b", -2), list("empty"), number("least", api.Least), list("list", 1), number("most", api.Most),
		{Name: "none", Value: value.Value{I: 4}}, number("nought", 0), {Name: "odd", Value: value.Value{Kind: 4, I: 4}}, text("text", "1"), text("void", ""),
	}
}

func TestP1001Numbers(t *testing.T) {
	for _, l := range [][]row.Attr{nil, {}, attrs()} {
		is(t, 0, l, "0", "-0", "(0)", "0+0")
		is(t, 5, l, "5", "(5)", "--5", "2+3", "7-2", "1*5", "11/2", "11%6")
		is(t, -5, l, "-5", "-(5)", "---5", "2-7", "-1*5", "-11/2", "-11%6")
		is(t, api.Most, l, "9223372036854775807")
	}
}

func TestP1001Names(t *testing.T) {
	is(t, 7, attrs(), "a", "(a)", "--a", "a+0", "a*1")
	is(t, -2, attrs(), "b")
	is(t, 0, attrs(), "nought")
	is(t, api.Least, attrs(), "least")
	is(t, api.Most, attrs(), "most")
	is(t, 1, []row.Attr{number("load", 1)}, "load")
	is(t, 9, []row.Attr{number("abcdefgh", 9)}, "abcdefgh")
	// Words of Ops are names as well as others.
	is(t, 24, []row.Attr{number("name", 4), number("neg", 3), number("num", 2)}, "name*neg*num")
	// What a Kind doesn't name doesn't count.
	is(t, 4, []row.Attr{{Name: "a", Value: value.Value{Kind: api.Int, I: 4, S: "9", L: []int64{9}}}}, "a")
}

// TestP1001NamesOfMany finds each of as many as a row may have, and none between.
func TestP1001NamesOfMany(t *testing.T) {
	var l []row.Attr
	for i := range api.MaxAttrs {
		l = append(l, number("a"+string(rune('a'+i/8))+string(rune('a'+i%8*2)), int64(i*i)-50))
		for j, a := range l {
			is(t, int64(j*j)-50, l, a.Name)
			isNothing(t, l, a.Name+"a", a.Name[:2]+string(a.Name[2]+1), a.Name[:2])
		}
		isNothing(t, l, "a", "b", "aaaaaaaa", "z9")
	}
}

func TestP1001Nothing(t *testing.T) {
	isNothing(t, nil, "a", "-a", "a+1")
	isNothing(t, []row.Attr{}, "a")
	isNothing(t, attrs(), "c", "aa", "a1", "mos", "mosts", "text", "void", "list", "empty", "none", "odd")
	isNothing(t, attrs(), "a/0", "a%0", "0/0", "0%0", "a/nought", "a%nought", "least/0", "least%0", "1/(a-7)", "1%(b+2)", "1/-0", "a/(b/7)")
}

// TestP1001FalseSpreads: where a part is nothing, the whole is nothing, whatever the others are.
func TestP1001FalseSpreads(t *testing.T) {
	for _, no := range []string{"c", "text", "list", "none", "(1/0)", "(a%nought)", "(-c)", "(c+a)"} {
		isNothing(t, attrs(), no, "-"+no, "--"+no, no+"-"+no)
		for _, op := range signs {
			isNothing(t, attrs(), "a"+op+no, no+op+"a", "0"+op+no, no+op+"0", "-("+no+op+"1)", "(1"+op+no+")-b", "b*(1"+op+no+")", "1"+op+"-"+no)
		}
	}
}

func TestP1001Cut(t *testing.T) {
	is(t, api.Most, attrs(), "most+1", "most+most", "most-b", "-least", "least/-1", "least*b", "least*least", "0-least", "a*most", "1-least", "most+1+1")
	is(t, api.Least, attrs(), "least-1", "least+least", "least+b", "most*b", "least*2", "-most-1", "-most-2", "a*least", "b-most", "-(-least)-1-1")
	is(t, api.Most-1, attrs(), "most+1-1", "b-least", "-least-1", "-(least+1)-1", "least*b-1")
	is(t, api.Least+1, attrs(), "least-1+1", "-most", "--(least+1)", "least*2+1", "--least")
	is(t, 0, attrs(), "least%-1", "0*least", "0*most", "nought/least", "least-least", "most%1", "1/2", "-1/2", "most+1-most", "least-1-least", "(most+1)%most")
	is(t, -1, attrs(), "least+most", "(least-1)+(most+1)", "least/most")
}

func TestP1001DivAndMod(t *testing.T) {
	is(t, -3, attrs(), "a/b", "-a/2", "-a%4", "(0-a)%-4")
	is(t, 3, attrs(), "a/2", "-a/b", "a%4", "a%-4")
	is(t, 1, attrs(), "a%b", "a%2", "7/4", "7%6")
	is(t, -1, attrs(), "-a%b", "-a%2", "-a/4")
}

func TestP1001OrderOfSigns(t *testing.T) {
	is(t, 1, attrs(), "a+b*3")
	is(t, 15, attrs(), "(a+b)*3")
	is(t, -4, attrs(), "1-2-3", "1-(2+3)")
	is(t, 2, attrs(), "1-(2-3)", "8/2/2", "16/(8/1)", "2*3%4", "9-a")
	is(t, 8, attrs(), "8/(2/2)", "64/4*1/2", "2*(12%8)")
	is(t, -9, attrs(), "-a+b", "-(a-b)")
	is(t, -5, attrs(), "-(a+b)", "-a-b")
}

// TestP1001EdgesByTwo holds each sign over all pairs of edges, told as numbers, as
// negs and by names.
func TestP1001EdgesByTwo(t *testing.T) {
	for _, a := range edges {
		for _, b := range edges {
			l := []row.Attr{number("x", a), number("y", b)}
			for _, op := range signs {
				holds(t, two(name("x"), op, name("y")), l)
				holds(t, two(neg(name("x")), op, name("y")), l)
				holds(t, neg(two(name("x"), op, neg(name("y")))), l)
				if a >= 0 && b >= 0 {
					holds(t, two(num(a), op, num(b)), nil)
				}
			}
		}
		holds(t, neg(name("x")), []row.Attr{number("x", a)})
	}
}

// made answers a Node of so many Nodes.
func made(r *rand.Rand, nodes int) expr.Node {
	switch {
	case nodes == 1 && r.Intn(2) == 0:
		return num(max(0, edges[r.Intn(len(edges))]))
	case nodes == 1:
		return name([]string{"a", "b", "least", "most", "nought", "a", "b", "a", "b", "b", "text"}[r.Intn(11)])
	case nodes == 2 || r.Intn(4) == 0:
		return neg(made(r, nodes-1))
	}
	left := 1 + r.Intn(nodes-2)
	return two(made(r, left), signs[r.Intn(5)], made(r, nodes-1-left))
}

func TestP1001ManyNodes(t *testing.T) {
	r := rand.New(rand.NewSource(10))
	there := 0
	for range 30000 {
		n := made(r, 1+r.Intn(32))
		l := attrs()
		l[0].Value.I, l[1].Value.I = edges[r.Intn(len(edges))], r.Int63()-r.Int63()
		holds(t, n, l)
		if worth(n, l) != nil {
			there++
		}
	}
	if there < 5000 {
		t.Fatalf("only %d of the Nodes are something", there)
	}
}

// TestP1001Limit: as many Nodes as may be are gone through, however they stand.
func TestP1001Limit(t *testing.T) {
	left, right := name("a"), name("a")
	for range 15 {
		left, right = two(left, "+", num(1)), two(num(1), "+", right)
	}
	for _, n := range []expr.Node{left, right} {
		if x, ok := calc.Eval(neg(n), attrs()); x != -22 || !ok {
			t.Errorf("P1001: Eval of 32 Nodes: %d, %v", x, ok)
		}
	}
	if x, ok := calc.Eval(negs(31, name("a")), attrs()); x != -7 || !ok {
		t.Errorf("P1001: Eval of 31 negs: %d, %v", x, ok)
	}
}

// TestP1001OfWhatMayBe: what an Op doesn't name doesn't count.
func TestP1001OfWhatMayBe(t *testing.T) {
	for want, n := range map[int64]expr.Node{
		3:  {Op: "num", N: 3, Name: "a"},
		7:  {Op: "name", N: 3, Name: "a", Kids: []expr.Node{}},
		-7: {Op: "neg", N: 3, Name: "b", Kids: []expr.Node{name("a")}},
		9:  {Op: "-", N: 3, Name: "b", Kids: []expr.Node{name("a"), name("b")}},
	} {
		if x, ok := calc.Eval(n, attrs()); x != want || !ok {
			t.Errorf("P1001: Eval(%v): %d, %v", n, x, ok)
		}
	}
}

// endless are Nodes that hold themselves, or so many others that nobody goes through them.
func endless() []expr.Node {
	wide := num(1)
	for range 80 {
		wide = two(wide, "+", wide)
	}
	self := neg(num(1))
	self.Kids[0] = self
	both := two(num(1), "*", num(1))
	both.Kids[0], both.Kids[1] = both, both
	return []expr.Node{wide, self, both, negs(1000000, num(1)), {Op: "+", Kids: make([]expr.Node, 1<<20)}, {Op: "num", N: 1, Kids: make([]expr.Node, 1<<20)}}
}

// TestP1AnyNode: what expr.Check refuses is nothing, and Eval of it ends.
func TestP1AnyNode(t *testing.T) {
	odd := []expr.Node{{}, {Op: "neg"}, {Op: "+"}, {Op: "+", Kids: []expr.Node{num(1)}}, {Op: "neg", Kids: []expr.Node{num(1), num(2)}}, {Op: "num", N: 1, Kids: []expr.Node{num(1)}}, {Op: "name", Name: "a", Kids: []expr.Node{num(1)}},
		{Op: "^", Kids: []expr.Node{num(1), num(2)}}, {Op: "/", Kids: []expr.Node{num(1), num(2), num(3)}}, {Op: "a"}, {Op: "=", Kids: []expr.Node{num(1), num(1)}},
		num(-1), num(api.Least), name(""), name("A"), name("abcdefghi"), negs(32, num(1))}
	l := append(attrs(), number("", 1))
	slices.SortFunc(l, func(a, b row.Attr) int { return strings.Compare(a.Name, b.Name) })
	for i, n := range append(odd, endless()...) {
		for _, m := range []expr.Node{n, neg(n), two(n, "+", num(1)), two(num(1), "*", n), neg(two(name("c"), "/", n))} {
			if x, ok := calc.Eval(m, l); x != 0 || ok {
				t.Errorf("P1: Eval of the odd Node %d: %d, %v", i, x, ok)
			}
		}
	}
}

// TestP1AnyAttrs: attributes that may not be are gone through without harm.
func TestP1AnyAttrs(t *testing.T) {
	n := parse(t, "a+b*most")
	for _, l := range [][]row.Attr{
		make([]row.Attr, 100), {number("a", 1), number("a", 2), number("a", 3)}, {number("most", 1), number("b", 2), number("a", 3)},
		{{Name: "a", Value: value.Value{Kind: -1}}, {Name: "b", Value: value.Value{Kind: 99}}, number("most", 1)}, slices.Repeat([]row.Attr{number("A B", 1), list("", 3, 3)}, 1000),
	} {
		x, ok := calc.Eval(n, l)
		if y, too := calc.Eval(n, l); y != x || too != ok {
			t.Errorf("P3: Eval: %d, %v, then %d, %v", x, ok, y, too)
		}
		if !ok && x != 0 {
			t.Errorf("P4: Eval: %d beside a false", x)
		}
	}
}

func TestP2LeavesWhatIsHandedIn(t *testing.T) {
	room := append(attrs(), number("spare", 1), list("spare", 1, 2))
	was := append(attrs(), number("spare", 1), list("spare", 1, 2))
	kids := []expr.Node{name("a"), neg(name("list")), name("spare")}
	n := expr.Node{Op: "*", Kids: kids[:2]}
	calc.Eval(n, room[:len(room)-2])
	calc.Eval(two(n.Kids[0], "/", num(0)), room[:len(room)-2])
	if !reflect.DeepEqual(room, was) || !reflect.DeepEqual(kids, []expr.Node{name("a"), neg(name("list")), name("spare")}) {
		t.Errorf("P2: what is handed in is another: %v, %v", room, kids)
	}
}

// TestP3TheSameAgain: nothing of one call is there in the next.
func TestP3TheSameAgain(t *testing.T) {
	n := parse(t, "a*10+b")
	for i := range int64(50) {
		l := []row.Attr{number("a", i), number("b", -i)}
		if x, ok := calc.Eval(n, l); x != 9*i || !ok {
			t.Errorf("P3: Eval: %d, %v", x, ok)
		}
		if x, ok := calc.Eval(n, l[:1]); x != 0 || ok {
			t.Errorf("P3: Eval without b: %d, %v", x, ok)
		}
	}
}

func TestP1001Holds(t *testing.T) {
	for op, want := range map[string][3]bool{"=": {false, true, false}, "!=": {true, false, true}, "<": {true, false, false}, "<=": {true, true, false}, ">": {false, false, true}, ">=": {false, true, true}} {
		for _, a := range edges {
			for _, b := range edges {
				if h, ok := calc.Holds(op, a, b); h != want[1+big.NewInt(a).Cmp(big.NewInt(b))] || !ok {
					t.Errorf("P1001: Holds(%q, %d, %d): %v, %v", op, a, b, h, ok)
				}
			}
		}
	}
}

func TestP1001HoldsNoSuch(t *testing.T) {
	there := []string{"=", "!=", "<", "<=", ">", ">="}
	ops := []string{"", "==", "===", "!==", "<>", "=<", "=>", "!", "a", "eq", "num", "name", "neg", "<= ", " <=", "<\x00", "≠", "≤", "and"}
	for _, op := range append(ops, signs...) {
		holdsNot(t, op)
	}
	for a := range 256 {
		for b := range 256 {
			for _, op := range []string{string([]byte{byte(a)}), string([]byte{byte(a), byte(b)})} {
				if !slices.Contains(there, op) {
					holdsNot(t, op)
				}
			}
		}
	}
}

func holdsNot(t *testing.T, op string) {
	t.Helper()
	for _, p := range [][2]int64{{0, 0}, {1, 1}, {1, 2}, {2, 1}, {api.Least, api.Most}} {
		if h, ok := calc.Holds(op, p[0], p[1]); h || ok {
			t.Errorf("P1001: Holds(%q, %d, %d): %v, %v", op, p[0], p[1], h, ok)
		}
	}
}
