package prog_test

import (
	"math/rand"
	"reflect"
	"slices"
	"strings"
	"testing"

	"canton/agg"
	"canton/api"
	"canton/expr"
	"canton/prog"
	"canton/row"
	"canton/stamp"
	"canton/value"
)

func stampOf(origin string) stamp.Stamp { return stamp.Stamp{Origin: origin} }

func checks(t *testing.T, want api.Errno, all ...prog.Prog) {
	t.Helper()
	for _, p := range all {
		if e := prog.Check(p); e != want {
			t.Errorf("P1201: Check(%d, %q, %.200q): %v, not %v", p.Ver, p.Origin, p.Text, e, want)
		}
	}
}

var noOrigins = []string{"", "/", "a", "a/b", "//", "/a/", "//a", "/a//b", "/A", "/1", "/abcdefghi", "/a b", " /a", "/a ", "/*", "/a/**", "/a\n", "\x00", "/\xff", "/a/b/c/d/e", strings.Repeat("/a", 5000), strings.Repeat("/", 5000)}

var origins = []string{"/a", "/n", "/rep", "/a2345678", "/a/b", "/a/b/c", "/a/b/c/d", "/a2345678/b2345678/c2345678/d2345678"}

func TestP1201CheckVer(t *testing.T) {
	for _, ver := range []int64{-1, -2, api.Least, api.MaxTick + 1, api.MaxTick + 2, 1 << 32, api.Most} {
		checks(t, api.ErrArg, prog.Prog{Ver: ver}, prog.Prog{Ver: ver, Origin: "/a", Text: "a = count()"}, prog.Prog{Ver: ver, Origin: "/", Text: "!"}, prog.Prog{Ver: ver, Origin: "/a", Text: strings.Repeat("!", 4097)})
	}
	for _, ver := range []int64{1, 2, 7, api.MaxTick - 1, api.MaxTick} {
		checks(t, api.OK, prog.Prog{Ver: ver, Origin: "/a"}, prog.Prog{Ver: ver, Origin: "/a", Text: "a = count()"})
	}
}

func TestP1201CheckOfVerNought(t *testing.T) {
	checks(t, api.OK, prog.Prog{})
	checks(t, api.ErrForm, prog.Prog{Origin: "/a"}, prog.Prog{Origin: "/"}, prog.Prog{Origin: "a"}, prog.Prog{Text: "a = count()"}, prog.Prog{Text: "!"}, prog.Prog{Text: "\n"}, prog.Prog{Text: strings.Repeat("!", 4097)}, prog.Prog{Origin: "/a", Text: "a = count()"}, prog.Prog{Origin: "/", Text: "n = count()"})
}

func TestP1201CheckOrigin(t *testing.T) {
	for _, s := range noOrigins {
		checks(t, api.ErrName, prog.Prog{Ver: 1, Origin: s}, prog.Prog{Ver: api.MaxTick, Origin: s, Text: "a = count()"}, prog.Prog{Ver: 1, Origin: s, Text: "!"}, prog.Prog{Ver: 1, Origin: s, Text: strings.Repeat("!", 4097)})
	}
	for _, s := range origins {
		checks(t, api.OK, prog.Prog{Ver: 1, Origin: s}, prog.Prog{Ver: 1, Origin: s, Text: "a = count()"})
	}
}

// padded answers a program of so many bytes that may be.
func padded(bytes int) string { return strings.Repeat(" ", bytes-11) + "a = count()" }

func TestP1201CheckText(t *testing.T) {
	of := func(all ...string) []prog.Prog {
		var l []prog.Prog
		for i, s := range all {
			l = append(l, prog.Prog{Ver: int64(i + 1), Origin: "/a", Text: s})
		}
		return l
	}
	wide := strings.Replace(many(8), "a0", strings.Repeat(" ", 4096-len(many(8)))+"a0", 1)
	if len(wide) != 4096 {
		t.Fatalf("%d bytes", len(wide))
	}
	checks(t, api.OK, of("", "a = count()", "a = count()\n", "z = min(x)\na = top(16, y) where x > 1", many(8), padded(4095), padded(4096), wide)...)
	checks(t, api.ErrLong, of(padded(4097), padded(10000), wide+" ", strings.Repeat("!", 4097), strings.Repeat("\n", 4097), "n = count()\n"+padded(4096), "a = top(0, x)\n"+strings.Repeat("!", 5000))...)
	// Bytes are counted, not runes.
	checks(t, api.ErrLong, of(strings.Repeat("é", 2049))...)
	checks(t, api.ErrForm, of(strings.Repeat("é", 2048))...)
	checks(t, api.ErrForm, of("\n", "!", "a", "a = count(", "a = count()\n\n", "a = count()\nb", strings.Repeat(" ", 4096), strings.Repeat("!", 4096))...)
	checks(t, api.ErrName, of("n = count()", "A = count()", "a = avg(x)", "a = count()\nload = max(load)")...)
	checks(t, api.ErrTwice, of("a = count()\na = count()", "a = count()\na = !")...)
	checks(t, api.ErrArg, of("a = top(99, x)", "a = count()\nb = top(0, x)\n!")...)
	checks(t, api.ErrLong, of(many(9), many(8)+"\n", many(8)+"!", "a="+strings.Repeat(" ", 1025)+"count()", "a = min("+strings.Repeat("-", 32)+"x)")...)
}

// TestP1201CheckIsOfParse: of all that is no error ahead, Check's is Parse's.
func TestP1201CheckIsOfParse(t *testing.T) {
	r := rand.New(rand.NewSource(123))
	for range 5000 {
		s := bent(r, many(r.Intn(10)))
		_, _, e := parse(s)
		checks(t, e, prog.Prog{Ver: 1 + r.Int63n(api.MaxTick), Origin: origins[r.Intn(len(origins))], Text: s})
	}
}

// endless are Nodes that hold themselves, or so many others that nobody goes through them.
func endless() []expr.Node {
	wide := expr.Node{Op: "num", N: 1}
	for range 80 {
		wide = expr.Node{Op: "+", Kids: []expr.Node{wide, wide}}
	}
	self := expr.Node{Op: "neg", Kids: make([]expr.Node, 1)}
	self.Kids[0] = self
	return []expr.Node{wide, self, {Op: "num", N: 1, Kids: make([]expr.Node, 1<<18)}}
}

// TestP1AnyLines: lines that may not be harm nothing, and are the same again (P3).
func TestP1AnyLines(t *testing.T) {
	count := agg.Agg{Func: "count"}
	all := [][]prog.Line{make([]prog.Line, 1000), {{Name: "A", A: count}, {Name: "n", A: count}, {A: count}, {Name: "a", A: agg.Agg{Func: "avg"}}}, slices.Repeat([]prog.Line{{Name: "a", A: count}}, 1000)}
	for _, n := range endless() {
		all = append(all, []prog.Line{{Name: "a", A: agg.Agg{Func: "min", E: n}}, {Name: "b", A: agg.Agg{Func: "count", Where: []agg.Cond{{Op: "=", A: n, B: n}}}}})
	}
	var wide []prog.Line
	for i := range 300 {
		wide = append(wide, prog.Line{Name: "a" + string(rune('a'+i/26)) + string(rune('a'+i%26)), A: count})
	}
	rows := append(three(), make([]row.Attr, 100), []row.Attr{number("b", 1), number("a", 2)}, []row.Attr{{Name: "x", Value: value.Value{Kind: 99}}})
	for _, l := range append(all, wide) {
		if a, b := prog.Run(l, rows), prog.Run(l, rows); !row.SameAttrs(a, b) {
			t.Errorf("P3: Run: %v, then %v", a, b)
		}
		if prog.Text(l) != prog.Text(l) {
			t.Errorf("P3: Text: %.100q", prog.Text(l))
		}
	}
}

// TestP1AnyText: whatever it is given, each call ends.
func TestP1AnyText(t *testing.T) {
	r := rand.New(rand.NewSource(1))
	for n := range 700 {
		b := make([]byte, n)
		for i := range b {
			b[i] = byte(r.Intn(256))
		}
		holds(t, string(b))
		for i := range b {
			b[i] = "a=\n count(),minx"[r.Intn(16)]
		}
		holds(t, string(b))
		prog.Kept(string(b))
		prog.Check(prog.Prog{Ver: 1, Origin: string(b), Text: string(b)})
	}
	for _, s := range []string{strings.Repeat("a", 1<<24), strings.Repeat(" ", 1<<24), strings.Repeat("\n", 1<<24), strings.Repeat("=", 1<<24), "a = " + strings.Repeat("(", 1<<24), "a = min(" + strings.Repeat("(", 1000)} {
		if _, _, e := prog.Parse(s); e == api.OK {
			t.Errorf("P1201: Parse(%.20q): ok", s)
		}
	}
}

// lists answers all lists of Nodes in n, their spare room too.
func lists(n expr.Node) [][]expr.Node {
	all := [][]expr.Node{n.Kids[:cap(n.Kids)]}
	for _, k := range all[0] {
		all = append(all, lists(k)...)
	}
	return all
}

func TestP2AnswersOfParseAreNewMemory(t *testing.T) {
	const s = "a = first(x+y, -x) where x+1 = y*2 and x != 1\nb = first(x+y, -x) where x+1 = y*2\nc = min(-x)\nd = min(-x)\ne = count()"
	l, m := parsed(t, s), parsed(t, s)
	was := prog.Text(m)
	seenNode, seenCond := map[*expr.Node]bool{}, map[*agg.Cond]bool{}
	var nodes [][]expr.Node
	for _, line := range l[:cap(l)] {
		where := line.A.Where[:cap(line.A.Where)]
		nodes = append(append(nodes, lists(line.A.E)...), lists(line.A.By)...)
		for i, c := range where {
			if seenCond[&where[i]] {
				t.Error("P2: two lists of an answer of Parse share")
			}
			seenCond[&where[i]] = true
			nodes = append(append(nodes, lists(c.A)...), lists(c.B)...)
		}
	}
	for _, k := range nodes {
		for i := range k {
			if seenNode[&k[i]] {
				t.Error("P2: two lists of an answer of Parse share")
			}
			seenNode[&k[i]] = true
		}
	}
	for _, k := range nodes {
		for i := range k {
			k[i] = expr.Node{Op: "spoilt"}
		}
	}
	for c := range seenCond {
		*c = agg.Cond{Op: "spoilt"}
	}
	for i := range l[:cap(l)] {
		l[:cap(l)][i] = prog.Line{Name: "spoilt"}
	}
	if prog.Text(m) != was || prog.Text(parsed(t, s)) != was {
		t.Error("P2: two answers of Parse share")
	}
}

func TestP2AnswersOfRunAreNewMemory(t *testing.T) {
	l := parsed(t, "a = top(2, x)\nb = top(2, x)\nc = top(1, y)\nd = count()")
	want := []row.Attr{list("a", 1, 3), list("b", 1, 3), list("c", 6), number("d", 3)}
	got, other := prog.Run(l, three()), prog.Run(l, three())
	seen := map[*int64]bool{}
	for _, a := range got[:cap(got)] {
		room := a.Value.L[:cap(a.Value.L)]
		for i := range room {
			if seen[&room[i]] {
				t.Error("P2: two lists of an answer of Run share")
			}
			seen[&room[i]] = true
		}
	}
	for n := range seen {
		*n = 77
	}
	for i := range got[:cap(got)] {
		got[:cap(got)][i] = number("spoilt", 1)
	}
	if !reflect.DeepEqual(other, want) {
		t.Errorf("P2: two answers of Run share: %v", other)
	}
	runs(t, want, l, three())
}

func TestP2LeavesWhatIsHandedIn(t *testing.T) {
	given := func() ([]prog.Line, [][]row.Attr) {
		l := parsed(t, "z = top(2, x+y) where x > 0\nm = min(x)\nb = first(y, x)\na = count()\nspare = count()")
		rows := append(three(), []row.Attr{number("x", 99)})
		rows[0] = append(rows[0], number("z", 9))
		rows[0] = rows[0][:2]
		return l, rows
	}
	l, rows := given()
	wantL, wantRows := given()
	prog.Run(l[:4], rows[:3])
	prog.Text(l[:4])
	if !reflect.DeepEqual(l, wantL) || !reflect.DeepEqual(rows, wantRows) || !reflect.DeepEqual(rows[0][:3], wantRows[0][:3]) {
		t.Errorf("P2: what is handed in is another: %v, %v", l, rows)
	}
}

// TestP3TheSameAgain: nothing of one call is there in the next.
func TestP3TheSameAgain(t *testing.T) {
	for i := range 50 {
		refuses(t, api.ErrLong, 8, many(9+i))
		refuses(t, api.ErrTwice, 1, "a = count()\na = count()")
		l := parsed(t, "b = count()\na = max(x)")
		runs(t, []row.Attr{number("a", 3), number("b", 3)}, l, three())
		runs(t, []row.Attr{number("b", 0)}, l, nil)
		checks(t, api.ErrName, prog.Prog{Ver: 1, Origin: "/", Text: many(i)})
		checks(t, api.OK, prog.Prog{Ver: 1, Origin: "/a", Text: many(i % 9)})
	}
}
