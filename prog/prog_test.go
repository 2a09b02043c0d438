package prog_test

import (
	"fmt"
	"math/rand"
	"reflect"
	"regexp"
	"slices"
	"strings"
	"testing"

	"canton/agg"
	"canton/api"
	"canton/prog"
	"canton/row"
	"canton/value"
)

var kept = []string{"rep", "load", "n", "ver"}

// lineForm is what a line must be ahead of what is asked of its parts.
var lineForm = regexp.MustCompile(`^ *([^ =]+) *=((?s).*)$`)

var nameForm = regexp.MustCompile(`^[a-z][a-z0-9]{0,7}$`)

// parse is a second writing of Parse: it has all lines ahead of looking into any.
func parse(s string) ([]prog.Line, int, api.Errno) {
	all := strings.Split(s, "\n")
	if all[len(all)-1] == "" {
		all = all[:len(all)-1]
	}
	there := map[string]bool{}
	var l []prog.Line
	for at, text := range all {
		m := lineForm.FindStringSubmatch(text)
		switch {
		case at >= 8:
			return nil, at, api.ErrLong
		case m == nil:
			return nil, at, api.ErrForm
		case !nameForm.MatchString(m[1]) || slices.Contains(kept, m[1]):
			return nil, at, api.ErrName
		case there[m[1]]:
			return nil, at, api.ErrTwice
		}
		a, _, e := agg.Parse(m[2])
		if e != api.OK {
			return nil, at, e
		}
		there[m[1]] = true
		l = append(l, prog.Line{Name: m[1], A: a})
	}
	return l, 0, api.OK
}

// holds wants of s what the second writing answers.
func holds(t *testing.T, s string) {
	t.Helper()
	want, place, err := parse(s)
	l, at, e := prog.Parse(s)
	if e != err || at != place || len(l) != len(want) || len(l) > 0 && !reflect.DeepEqual(l, want) {
		t.Errorf("P1201: Parse(%.300q): %v, %d, %v; not %v, %d, %v", s, l, at, e, want, place, err)
	}
	if e != api.OK && l != nil {
		t.Errorf("P4: Parse(%.300q): %v beside %v", s, l, e)
	}
}

func an(t *testing.T, s string) agg.Agg {
	t.Helper()
	a, _, e := agg.Parse(s)
	if e != api.OK {
		t.Fatalf("agg.Parse(%q): %v", s, e)
	}
	return a
}

func parsed(t *testing.T, s string) []prog.Line {
	t.Helper()
	l, at, e := prog.Parse(s)
	if at != 0 || e != api.OK {
		t.Fatalf("P1201: Parse(%q): %d, %v", s, at, e)
	}
	return l
}

func takes(t *testing.T, want []prog.Line, all ...string) {
	t.Helper()
	for _, s := range all {
		if l := parsed(t, s); len(l) != len(want) || len(l) > 0 && !reflect.DeepEqual(l, want) {
			t.Errorf("P1201: Parse(%q): %v, not %v", s, l, want)
		}
		holds(t, s)
	}
}

func refuses(t *testing.T, want api.Errno, place int, all ...string) {
	t.Helper()
	for _, s := range all {
		if l, at, e := prog.Parse(s); l != nil || at != place || e != want {
			t.Errorf("P1201: Parse(%.300q): %v, %d, %v; not %d, %v", s, l, at, e, place, want)
		}
		holds(t, s)
	}
}

// many answers so many lines that may be, each of a Name of its own.
func many(n int) string {
	s := ""
	for i := range n {
		s += fmt.Sprintf("a%d = count()\n", i)
	}
	return s
}

func TestP1201Kept(t *testing.T) {
	for _, s := range kept {
		if !prog.Kept(s) {
			t.Errorf("P1201: Kept(%q): false", s)
		}
	}
	for _, s := range []string{"", "a", "re", "reps", "loa", "loads", "nn", "n1", "ve", "vers", "Rep", "LOAD", "N", " n", "n ", "n\n", "rep load", "count", "origin", "\x00", strings.Repeat("n", 1<<20)} {
		if prog.Kept(s) {
			t.Errorf("P1201: Kept(%.20q): true", s)
		}
	}
}

func TestP1201Parse(t *testing.T) {
	count, least := an(t, "count()"), an(t, "min(x)")
	takes(t, nil, "")
	takes(t, []prog.Line{{Name: "a", A: count}}, "a = count()", "a = count()\n", "a=count()", "a= count()", "a =count()", "   a   =   count ( )   ", "   a=count()\n")
	takes(t, []prog.Line{{Name: "a", A: count}, {Name: "b", A: least}}, "a = count()\nb = min(x)", "a = count()\nb = min(x)\n", " a=count() \n b=min(x) ")
	// Lines stay in their order.
	takes(t, []prog.Line{{Name: "z", A: least}, {Name: "b", A: count}, {Name: "y", A: least}}, "z = min(x)\nb = count()\ny = min(x)\n")
	// What is kept is so for the Names of lines alone, and words of the language are names, too.
	takes(t, []prog.Line{{Name: "count", A: an(t, "first(load, n) where ver = rep")}, {Name: "where", A: an(t, "max(n)")}}, "count = first(load, n) where ver = rep\nwhere = max(n)")
	takes(t, []prog.Line{{Name: "a2345678", A: count}, {Name: "reps", A: count}, {Name: "nn", A: count}, {Name: "loads", A: count}}, "a2345678=count()\nreps=count()\nnn=count()\nloads=count()")
	takes(t, []prog.Line{{Name: "a", A: an(t, "top(3, x) where x>=1 and y!=2")}}, "a = top(3,x) where x>=1 and y!=2", "a=top(3, x)where x >= 1 and y != 2")
}

func TestP1201ParseForm(t *testing.T) {
	no := []string{"", " ", "    ", "=", "==", " =", "= count()", "  = count()", "=count()", "a", "a ", " a", "a count()", "a b = count()", "a a=count()", "a (= count()", "rep", "rep x", "A", "A B = count()", "abcdefghi", "\t", "\r", "a\tb", "count()", "count() where a=1", "a + = count()", "a \t= count()", "a \t", " \t ", "a \r=count()", "a \x00= x"}
	for _, s := range no {
		refuses(t, api.ErrForm, 0, s+"\n", s+"\na = count()", s+"\n\n")
		refuses(t, api.ErrForm, 1, "x = count()\n"+s+"\n", "x = count()\n"+s+"\ny = count()\n")
		refuses(t, api.ErrForm, 7, many(7)+s+"\n")
		if s != "" {
			refuses(t, api.ErrForm, 0, s)
			refuses(t, api.ErrForm, 1, "x = count()\n"+s)
		}
	}
	refuses(t, api.ErrForm, 0, "\na = count()", "\n\n\n", " \n", strings.Repeat("\n", 100))
	refuses(t, api.ErrForm, 1, "a = count()\n\nb = count()", "a = count()\n\n", "a = count()\n \n")
}

func TestP1201ParseName(t *testing.T) {
	no := append([]string{"A", "aB", "1", "1a", "a-b", "a+b", "a_", "_a", "a.", "abcdefghi", "a(", "(a)", "!", "a!", "!a", "a<", "a>", "a\t", "\ta", "\ra", "é", "a\x00", "\xff", "/a", "Rep", strings.Repeat("a", 5000)}, kept...)
	for _, s := range no {
		refuses(t, api.ErrName, 0, s+" = count()", s+"=count()", "  "+s+"   =count()", s+"=", s+" = ", s+" = 17\n")
		refuses(t, api.ErrName, 2, many(2)+s+" = count()\n", many(2)+s+" = count()\nx = count()")
	}
	refuses(t, api.ErrName, 0, "a!=1", "a<=1", "a>=count()", "n==", "count()=count()", "rep = count()\nrep = count()")
}

func TestP1201ParseTwice(t *testing.T) {
	refuses(t, api.ErrTwice, 1, "a = count()\na = count()", "a = count()\na = min(x)\n", "a=count()\n a =count()", "a = count()\na =", "a = count()\na = 1\nb")
	refuses(t, api.ErrTwice, 2, "a = count()\nb = count()\na = count()", "a = count()\nb = count()\nb = !\n", "b = count()\na = count()\nb = count()\nb = count()")
	refuses(t, api.ErrTwice, 7, many(7)+"a0 = count()", many(7)+"a6 = x")
	takes(t, []prog.Line{{Name: "a", A: an(t, "count()")}, {Name: "aa", A: an(t, "count()")}, {Name: "a1", A: an(t, "count()")}}, "a=count()\naa=count()\na1=count()")
}

// TestP1201ParseAgg: what is behind the first `=` is an agg.Agg, or its error is told.
func TestP1201ParseAgg(t *testing.T) {
	minus := strings.Repeat("-", 32)
	for e, all := range map[api.Errno][]string{
		api.ErrForm: {"", " ", "=", "=count()", "= count()", "1", "!", "min", "min(", "min()", "min(x", "min(x))", "count() where", "count() where x", "count() where x=1 and", "count() b = count()", "count()\r", "\tcount()", "01", "a!", "top(x, 1)"},
		api.ErrName: {"x", "avg(x)", "count1()", "min(abcdefghi)", "x = 1", "rep"},
		api.ErrArg:  {"top(0, x)", "top(17, x)", "min(9223372036854775808)"},
		api.ErrLong: {"min(" + minus + "x)", "count() where x=1 and x=1 and x=1 and x=1 and x=1", strings.Repeat("!", 1025), "count()" + strings.Repeat(" ", 1018)},
	} {
		for _, s := range all {
			refuses(t, e, 0, "a="+s, "a="+s+"\n", "a="+s+"\n!", "  a   ="+s)
			refuses(t, e, 1, "b = count()\na="+s, "b = count()\na="+s+"\nb = count()\n")
			refuses(t, e, 7, many(7)+"a="+s)
		}
	}
	takes(t, []prog.Line{{Name: "a", A: an(t, "count()")}}, "a=count()"+strings.Repeat(" ", 1017), strings.Repeat(" ", 5000)+"a"+strings.Repeat(" ", 5000)+"=count()")
	takes(t, []prog.Line{{Name: "a", A: an(t, "min("+minus[1:]+"x)")}}, "a=min("+minus[1:]+"x)")
}

func TestP1201ParseLong(t *testing.T) {
	eight := many(8)
	if l := parsed(t, eight); len(l) != 8 || prog.Text(l) != eight {
		t.Errorf("P1201: Parse(%q): %v", eight, l)
	}
	holds(t, strings.TrimSuffix(eight, "\n"))
	// The line that is too many is not looked into, and those behind it don't count.
	for _, s := range []string{"a8 = count()", "\n", " ", "b", "=", "B = count()", "rep = count()", "a0 = count()", "a0 = x", "a8 = x", "a8 = top(0, x)", "!!", "\x00", strings.Repeat("x", 1<<16)} {
		refuses(t, api.ErrLong, 8, eight+s, eight+s+"\n", eight+s+"\n!", eight+s+strings.Repeat("\n", 100))
	}
	// What is ahead of it counts first.
	refuses(t, api.ErrForm, 7, many(7)+"\na7 = count()\n", many(7)+"b\n\n\n\n")
	refuses(t, api.ErrName, 0, "n = count()\n"+eight)
	refuses(t, api.ErrTwice, 3, many(3)+many(8))
	refuses(t, api.ErrArg, 0, "a = top(0, x)\n"+many(9))
}

// TestP1201ParseTheFirstFault: of several faults of a line the one named first is told,
// of several lines the first that has one.
func TestP1201ParseTheFirstFault(t *testing.T) {
	refuses(t, api.ErrForm, 1, "a = count()\nA x", "a = count()\na x", "a = count()\nrep", "a = count()\nn !")
	refuses(t, api.ErrName, 1, "a = count()\nA = !", "a = count()\nver = avg(x)")
	refuses(t, api.ErrTwice, 1, "a = count()\na = avg(x)", "a = count()\na = !")
	refuses(t, api.ErrArg, 0, "a = top(0, x)\n!", "a = top(17, x)\na = count()", "a = top(0, x)\n\n", "a = top(0, x)\nrep = count()")
	refuses(t, api.ErrName, 1, "a = count()\nb = avg(x)\n!", "a = count()\nb = avg(x)\na = count()")
}

// TestP1201ParseAllShort holds all short lists of pieces.
func TestP1201ParseAllShort(t *testing.T) {
	pieces := []string{"a", "b", "n", " ", "=", "\n", "count()", "A"}
	all := []string{""}
	for range 6 {
		var longer []string
		for _, s := range all {
			for _, p := range pieces {
				longer = append(longer, s+p)
			}
		}
		for _, s := range longer {
			want, place, err := parse(s)
			l, at, e := prog.Parse(s)
			if e != err || at != place || prog.Text(l) != prog.Text(want) {
				t.Fatalf("P1201: Parse(%q): %v, %d, %v; not %v, %d, %v", s, l, at, e, want, place, err)
			}
		}
		all = longer
	}
}

var pieces = []string{"\n", "\n", "\n", " ", "=", "==", "a", "b", "c", "rep", "load", "n", "ver", "A", "!", "count()", "min(x)", "top(2, y)", "first(x, y)", " = ", "where x=1", "a = count()\n", "b = sum(x)\n"}

// bent answers s with some bytes of it left out, turned, or with pieces put in.
func bent(r *rand.Rand, s string) string {
	for range 1 + r.Intn(3) {
		at := r.Intn(len(s) + 1)
		till := min(len(s), at+r.Intn(3))
		put := pieces[r.Intn(len(pieces))]
		if r.Intn(4) == 0 {
			put = string([]byte{byte(r.Intn(256))})
		}
		s = s[:at] + put + s[till:]
	}
	return s
}

// TestP1201ParseMany holds made-up programs, and what comes of them when they are bent.
func TestP1201ParseMany(t *testing.T) {
	r := rand.New(rand.NewSource(120))
	errs := map[api.Errno]int{}
	for range 4000 {
		s := ""
		for i := range r.Intn(11) {
			s += strings.Repeat(" ", max(0, r.Intn(5)-2)) + string(rune('a'+i)) + strings.Repeat(" ", r.Intn(3)) + "=" + strings.Repeat(" ", r.Intn(3)) + agg.Text(madeAgg(t, r)) + "\n"
		}
		if r.Intn(2) == 0 {
			s = strings.TrimSuffix(s, "\n")
		}
		holds(t, s)
		for range 5 {
			b := bent(r, s)
			holds(t, b)
			_, _, e := parse(b)
			errs[e]++
		}
	}
	for _, e := range []api.Errno{api.OK, api.ErrForm, api.ErrName, api.ErrTwice, api.ErrLong} {
		if errs[e] < 50 {
			t.Errorf("only %d of %v", errs[e], e)
		}
	}
}

// madeAgg answers an Agg of what the rows of made may have.
func madeAgg(t *testing.T, r *rand.Rand) agg.Agg {
	t.Helper()
	exprs := []string{"x", "y", "z", "1", "x+y", "-x", "x*2-y", "x/z", "rep", "n"}
	e := func() string { return exprs[r.Intn(len(exprs))] }
	s := ""
	switch r.Intn(6) {
	case 0:
		s = "count()"
	case 1:
		s = "min(" + e() + ")"
	case 2:
		s = "max(" + e() + ")"
	case 3:
		s = "sum(" + e() + ")"
	case 4:
		s = "first(" + e() + ", " + e() + ")"
	case 5:
		s = fmt.Sprintf("top(%d, %s)", 1+r.Intn(16), e())
	}
	word := " where "
	for range max(0, r.Intn(6)-3) {
		s += word + e() + []string{"=", "!=", "<", "<=", ">", ">="}[r.Intn(6)] + e()
		word = " and "
	}
	return an(t, s)
}

func TestP1201Text(t *testing.T) {
	count, least := an(t, "count()"), an(t, "min(x*2) where y>1 and x=3")
	for _, c := range []struct {
		l    []prog.Line
		want string
	}{
		{nil, ""}, {[]prog.Line{}, ""},
		{[]prog.Line{{Name: "a", A: count}}, "a = count()\n"},
		{[]prog.Line{{Name: "z", A: least}, {Name: "a", A: count}}, "z = min((x * 2)) where y > 1 and x = 3\na = count()\n"},
		// What Parse refuses is told as it is.
		{[]prog.Line{{Name: "a", A: count}, {Name: "a", A: count}, {Name: "n", A: count}, {Name: "A b", A: count}}, "a = count()\na = count()\nn = count()\nA b = count()\n"},
		{[]prog.Line{{A: count}}, " = count()\n"},
		{slices.Repeat([]prog.Line{{Name: "b", A: count}}, 50), strings.Repeat("b = count()\n", 50)},
	} {
		if got := prog.Text(c.l); got != c.want {
			t.Errorf("P1201: Text(%v): %q, not %q", c.l, got, c.want)
		}
	}
	odd := agg.Agg{Func: "avg", K: 3, Where: []agg.Cond{{Op: "?"}}}
	if got, want := prog.Text([]prog.Line{{Name: "a", A: odd}}), "a = "+agg.Text(odd)+"\n"; got != want {
		t.Errorf("P1201: Text: %q, not %q", got, want)
	}
}

// TestP1201TextIsParsedBack: the Text of what was parsed is the same program.
func TestP1201TextIsParsedBack(t *testing.T) {
	r := rand.New(rand.NewSource(121))
	for range 2000 {
		var l []prog.Line
		want := ""
		for i := range r.Intn(9) {
			line := prog.Line{Name: string(rune('z' - i)), A: madeAgg(t, r)}
			l = append(l, line)
			want += line.Name + " = " + agg.Text(line.A) + "\n"
		}
		if s := prog.Text(l); s != want {
			t.Errorf("P1201: Text(%v): %q, not %q", l, s, want)
		}
		takes(t, l, want)
	}
}

func number(s string, n int64) row.Attr {
	return row.Attr{Name: s, Value: value.Value{Kind: api.Int, I: n}}
}

func list(s string, l ...int64) row.Attr {
	return row.Attr{Name: s, Value: value.Value{Kind: api.List, L: l}}
}

func text(s, in string) row.Attr {
	return row.Attr{Name: s, Value: value.Value{Kind: api.Text, S: in}}
}

// three are rows in which x is 3, 1 and nothing; y is 5, 6 and a text.
func three() [][]row.Attr {
	return [][]row.Attr{{number("x", 3), number("y", 5)}, {number("x", 1), number("y", 6)}, {text("y", "7")}}
}

func runs(t *testing.T, want []row.Attr, l []prog.Line, rows [][]row.Attr) {
	t.Helper()
	if got := prog.Run(l, rows); len(got) != len(want) || len(got) > 0 && !reflect.DeepEqual(got, want) {
		t.Errorf("P1201: Run(%q, %v): %v, not %v", prog.Text(l), rows, got, want)
	}
}

func TestP1201Run(t *testing.T) {
	for _, c := range []struct {
		s    string
		want []row.Attr
	}{
		{"", nil},
		{"a = count()", []row.Attr{number("a", 3)}},
		{"z = count()\nm = min(x)\nk = first(y, x)\na = top(2, x)", []row.Attr{list("a", 1, 3), number("k", 6), number("m", 1), number("z", 3)}},
		// Rising by their Names, whatever the order of the lines is.
		{"b = sum(y)\na10 = max(x)\na2 = count() where x>1\na = min(y)", []row.Attr{number("a", 5), number("a10", 3), number("a2", 1), number("b", 11)}},
		// What is false is left out: the first, the last, in the midst, all.
		{"a = min(z)\nb = count()", []row.Attr{number("b", 3)}},
		{"a = count()\nb = max(z)", []row.Attr{number("a", 3)}},
		{"c = count()\nb = first(x, z)\na = sum(z)", []row.Attr{number("a", 0), number("c", 3)}},
		{"a = min(z)\nb = max(x/0)\nc = first(x, x) where x>9", nil},
		{"a = top(3, z)\nb = sum(x) where x>9\nc = count() where z=z", []row.Attr{list("a"), number("b", 0), number("c", 0)}},
		// A line sees the rows, not what the lines ahead made.
		{"a = count()\nb = sum(a)\nx = max(y)\nc = max(x)", []row.Attr{number("a", 3), number("b", 0), number("c", 3), number("x", 6)}},
	} {
		runs(t, c.want, parsed(t, c.s), three())
	}
	runs(t, []row.Attr{list("a"), number("z", 0)}, parsed(t, "z = count()\nm = min(x)\nk = first(y, x)\na = top(2, x)"), nil)
	runs(t, []row.Attr{number("z", 2)}, parsed(t, "z = count()\nm = max(x)"), [][]row.Attr{nil, {}})
	runs(t, nil, nil, three())
	runs(t, nil, []prog.Line{}, three())
	runs(t, []row.Attr{list("a", 0, 1, 2, 3, 4, 5, 6, 7, 8, 9, 10, 11, 12, 13, 14, 15)}, parsed(t, "a = top(16, x)"), upTo(16))
}

// upTo answers rows in which x is 0, 1, .. of n rows.
func upTo(n int) [][]row.Attr {
	var l [][]row.Attr
	for i := range n {
		l = append(l, []row.Attr{number("x", int64(i))})
	}
	return l
}

// made answers made-up rows.
func made(r *rand.Rand) [][]row.Attr {
	var l [][]row.Attr
	for range r.Intn(12) {
		var m []row.Attr
		for _, s := range []string{"n", "rep", "x", "y", "z"} {
			switch r.Intn(5) {
			case 0:
			case 1:
				m = append(m, text(s, "1"))
			case 2:
				m = append(m, list(s, 1))
			default:
				m = append(m, number(s, r.Int63n(20)-5))
			}
		}
		l = append(l, m)
	}
	return l
}

// TestP1201RunMany holds Run against a second writing of it.
func TestP1201RunMany(t *testing.T) {
	r := rand.New(rand.NewSource(122))
	out, in := 0, 0
	for range 5000 {
		rows := made(r)
		var l []prog.Line
		var want []row.Attr
		for _, i := range r.Perm(26)[:r.Intn(9)] {
			l = append(l, prog.Line{Name: "a" + string(rune('a'+i)), A: madeAgg(t, r)})
			v, there := agg.Eval(l[len(l)-1].A, rows)
			if there {
				want = append(want, row.Attr{Name: l[len(l)-1].Name, Value: v})
				in++
			} else {
				out++
			}
		}
		slices.SortFunc(want, func(a, b row.Attr) int { return strings.Compare(a.Name, b.Name) })
		runs(t, want, l, rows)
		if got := prog.Run(l, rows); row.Check(row.Row{Key: "a", Stamp: stampOf("/a"), Attrs: got}) != api.OK {
			t.Errorf("P1201: Run(%q): no row's: %v", prog.Text(l), got)
		}
	}
	if in < 1000 || out < 1000 {
		t.Errorf("only %d are something, %d nothing", in, out)
	}
}

func TestP1201Newer(t *testing.T) {
	// These rise; of each place all are as new.
	l := [][]prog.Prog{
		{{Ver: api.Least, Origin: "/z"}}, {{Ver: -1, Origin: "/z"}}, {{}, {Text: "a"}}, {{Origin: "/a"}, {Origin: "/a", Text: "z"}}, {{Ver: 1}}, {{Ver: 1, Origin: "/"}}, {{Ver: 1, Origin: "/a"}, {Ver: 1, Origin: "/a", Text: "a = count()"}, {Ver: 1, Origin: "/a", Text: "b"}}, {{Ver: 1, Origin: "/a/b"}}, {{Ver: 1, Origin: "/a0"}}, {{Ver: 1, Origin: "/aa"}}, {{Ver: 1, Origin: "/b", Text: "a"}}, {{Ver: 2}}, {{Ver: 2, Origin: "/a"}}, {{Ver: 10, Origin: "/a"}}, {{Ver: 1000000000, Origin: "/a"}}, {{Ver: api.Most}}, {{Ver: api.Most, Origin: "\xff"}},
	}
	for i, as := range l {
		for k, bs := range l {
			for _, a := range as {
				for _, b := range bs {
					if prog.Newer(a, b) != (i > k) {
						t.Errorf("P1201: Newer(%v, %v): %v", a, b, i <= k)
					}
				}
			}
		}
	}
}
