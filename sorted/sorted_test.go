package sorted_test

import (
	"cmp"
	"fmt"
	"maps"
	"math"
	"slices"
	"testing"

	"canton/sorted"
)

// lay answers a map of the keys, each with its place in the list.
func lay[K cmp.Ordered](keys ...K) *sorted.Map[K, int] {
	m := sorted.New[K, int]()
	for i, k := range keys {
		m.Put(k, i)
	}
	return m
}

// told is all that m answers of itself, in words.
func told[K cmp.Ordered, V any](m *sorted.Map[K, V]) string {
	s := fmt.Sprintf("%d %v", m.Len(), m.Keys())
	for i := range m.Len() {
		k, v, ok := m.At(i)
		s += fmt.Sprintf(" %v:%v:%v", k, v, ok)
	}
	return s
}

func want(t *testing.T, what, got, want string) {
	t.Helper()
	if got != want {
		t.Errorf("%s: %s, not %s", what, got, want)
	}
}

func TestP101PutTellsWhetherItIsNew(t *testing.T) {
	m := sorted.New[string, int]()
	for i, c := range []struct {
		k   string
		v   int
		new bool
		all string
	}{
		{"m", 1, true, "1 [m] m:1:true"},
		{"x", 2, true, "2 [m x] m:1:true x:2:true"},
		{"", 3, true, "3 [ m x] :3:true m:1:true x:2:true"},
		{"mm", 4, true, "4 [ m mm x] :3:true m:1:true mm:4:true x:2:true"},
		{"m", 5, false, "4 [ m mm x] :3:true m:5:true mm:4:true x:2:true"},
		{"m", 5, false, "4 [ m mm x] :3:true m:5:true mm:4:true x:2:true"},
		{"", 0, false, "4 [ m mm x] :0:true m:5:true mm:4:true x:2:true"},
		{"x", 6, false, "4 [ m mm x] :0:true m:5:true mm:4:true x:6:true"},
	} {
		if got := m.Put(c.k, c.v); got != c.new {
			t.Errorf("P101: %d: Put %q: %v", i, c.k, got)
		}
		want(t, fmt.Sprintf("P101: %d", i), told(m), c.all)
	}
}

func TestP101Get(t *testing.T) {
	m := lay("b", "", "d")
	for _, c := range []struct {
		k  string
		v  int
		ok bool
	}{{"b", 0, true}, {"", 1, true}, {"d", 2, true}, {"a", 0, false}, {"c", 0, false}, {"e", 0, false}, {"d\x00", 0, false}} {
		if v, ok := m.Get(c.k); v != c.v || ok != c.ok {
			t.Errorf("P101: Get %q: %d, %v", c.k, v, ok)
		}
	}
}

func TestP101Drop(t *testing.T) {
	m := lay(1, 2, 3, 4, 5)
	for i, c := range []struct {
		k     int
		there bool
		keys  string
	}{
		{0, false, "[1 2 3 4 5]"}, {6, false, "[1 2 3 4 5]"},
		{3, true, "[1 2 4 5]"}, {3, false, "[1 2 4 5]"},
		{1, true, "[2 4 5]"}, {5, true, "[2 4]"},
		{2, true, "[4]"}, {4, true, "[]"}, {4, false, "[]"},
	} {
		if got := m.Drop(c.k); got != c.there {
			t.Errorf("P101: %d: Drop %d: %v", i, c.k, got)
		}
		want(t, fmt.Sprintf("P101: %d", i), fmt.Sprint(m.Keys()), c.keys)
		if v, ok := m.Get(c.k); v != 0 || ok {
			t.Errorf("P101: %d: Get behind Drop: %d, %v", i, v, ok)
		}
	}
	if !m.Put(4, 9) {
		t.Error("P101: what was dropped is new again")
	}
	want(t, "P101", told(m), "1 [4] 4:9:true")
}

func TestP101DropTakesItsOwnValue(t *testing.T) {
	m := lay("a", "b", "c", "d")
	m.Drop("b")
	want(t, "P101", told(m), "3 [a c d] a:0:true c:2:true d:3:true")
	m.Drop("a")
	want(t, "P101", told(m), "2 [c d] c:2:true d:3:true")
	m.Drop("d")
	want(t, "P101", told(m), "1 [c] c:2:true")
}

func TestP101AtRefusesWhatIsNoPlace(t *testing.T) {
	m := lay("b", "a")
	for _, c := range []struct {
		i  int
		k  string
		v  int
		ok bool
	}{
		{0, "a", 1, true}, {1, "b", 0, true},
		{2, "", 0, false}, {-1, "", 0, false}, {-2, "", 0, false},
		{math.MaxInt, "", 0, false}, {math.MinInt, "", 0, false},
	} {
		if k, v, ok := m.At(c.i); k != c.k || v != c.v || ok != c.ok {
			t.Errorf("P101, P9: At %d: %q, %d, %v", c.i, k, v, ok)
		}
	}
}

func TestP101FloorAndCeil(t *testing.T) {
	m := lay[int64](40, 10, math.MaxInt64-1, 30, 20)
	for _, c := range []struct {
		k           int64
		floor, ceil string
	}{
		{math.MinInt64, "0 false", "10 true"}, {9, "0 false", "10 true"},
		{10, "10 true", "10 true"}, {11, "10 true", "20 true"}, {20, "20 true", "20 true"},
		{29, "20 true", "30 true"}, {40, "40 true", "40 true"},
		{41, "40 true", "9223372036854775806 true"},
		{math.MaxInt64 - 1, "9223372036854775806 true", "9223372036854775806 true"},
		{math.MaxInt64, "9223372036854775806 true", "0 false"},
	} {
		f, fok := m.Floor(c.k)
		g, gok := m.Ceil(c.k)
		want(t, fmt.Sprintf("P101: Floor %d", c.k), fmt.Sprint(f, fok), c.floor)
		want(t, fmt.Sprintf("P101: Ceil %d", c.k), fmt.Sprint(g, gok), c.ceil)
	}
}

func TestP101AnEmptyMapHasNothing(t *testing.T) {
	emptied := lay("a")
	emptied.Drop("a")
	for i, m := range []*sorted.Map[string, int]{sorted.New[string, int](), emptied, emptied.Twin(), {}} {
		if m.Len() != 0 || len(m.Keys()) != 0 {
			t.Errorf("P101: %d: %d, %q", i, m.Len(), m.Keys())
		}
		if k, v, ok := m.At(0); k != "" || v != 0 || ok {
			t.Errorf("P101, P4: %d: At: %q, %d, %v", i, k, v, ok)
		}
		if v, ok := m.Get("a"); v != 0 || ok {
			t.Errorf("P101, P4: %d: Get: %d, %v", i, v, ok)
		}
		if k, ok := m.Floor("z"); k != "" || ok {
			t.Errorf("P101, P4: %d: Floor: %q, %v", i, k, ok)
		}
		if k, ok := m.Ceil(""); k != "" || ok {
			t.Errorf("P101, P4: %d: Ceil: %q, %v", i, k, ok)
		}
		if m.Drop("") {
			t.Errorf("P101: %d: Drop", i)
		}
		if !m.Put("", 1) || m.Len() != 1 {
			t.Errorf("P101: %d: Put", i)
		}
	}
}

func TestP101KeysOfEveryOrder(t *testing.T) {
	want(t, "P101: bytes of texts", fmt.Sprintf("%q", lay("b", "a\xff", "B", "ab", "a", "é", "").Keys()), `["" "B" "a" "ab" "a\xff" "b" "é"]`)
	want(t, "P101: uint8", fmt.Sprint(lay[uint8](255, 0, 128, 127).Keys()), "[0 127 128 255]")
	want(t, "P101: int8", fmt.Sprint(lay[int8](127, 0, -128, -1).Keys()), "[-128 -1 0 127]")
	want(t, "P101: uint64", fmt.Sprint(lay[uint64](math.MaxUint64, 1<<63, 1<<63-1).Keys()), "[9223372036854775807 9223372036854775808 18446744073709551615]")
	want(t, "P101: floats", fmt.Sprint(lay(math.Inf(1), 0.5, math.Inf(-1), -0.5).Keys()), "[-Inf -0.5 0.5 +Inf]")
	type name string
	want(t, "P101: a kind of one's own", fmt.Sprint(lay[name]("z", "y").Keys()), "[y z]")
	if m := lay(0.0); m.Put(math.Copysign(0, -1), 7) || m.Len() != 1 {
		t.Errorf("P101: nought is one key: %s", told(m))
	}
}

func TestP101Twin(t *testing.T) {
	m := lay("a", "c", "e")
	w := m.Twin()
	want(t, "P101: the twin", told(w), told(m))
	was := told(m)
	w.Put("a", 99)
	w.Put("b", 98)
	w.Drop("e")
	want(t, "P7: m behind the twin's calls", told(m), was)
	is := told(w)
	want(t, "P7: the twin", is, "3 [a b c] a:99:true b:98:true c:1:true")
	m.Put("c", 97)
	m.Put("d", 96)
	m.Drop("a")
	want(t, "P7: the twin behind m's calls", told(w), is)
	v := w.Twin()
	w.Drop("c")
	want(t, "P7: a twin's twin", told(v), is)
}

func TestP2KeysAreNewMemory(t *testing.T) {
	m := lay(3, 1, 2)
	m.Drop(3)
	was := told(m)
	a, b := m.Keys(), m.Keys()
	for _, l := range [][]int{a, a[:cap(a)], append(a, 7)} {
		for i := range l {
			l[i] = 100
		}
	}
	want(t, "P2", told(m), was)
	want(t, "P2: another answer", fmt.Sprint(b), "[1 2]")
	m.Put(0, 9)
	m.Drop(2)
	want(t, "P2: an answer behind later calls", fmt.Sprint(b), "[1 2]")
}

// TestP101AgainstAPlainMap holds long runs of calls against a map and a sort.
func TestP101AgainstAPlainMap(t *testing.T) {
	for seed := range uint32(20) {
		m, plain := sorted.New[int, uint32](), map[int]uint32{}
		x := seed + 1
		for range 600 {
			x = x*1664525 + 1013904223
			k, what := int(x>>16%64), x>>24%3
			_, was := plain[k]
			if what == 0 {
				delete(plain, k)
				if m.Drop(k) != was {
					t.Fatalf("P101: Drop %d", k)
				}
			} else {
				plain[k] = x
				if m.Put(k, x) == was {
					t.Fatalf("P101: Put %d", k)
				}
			}
			compare(t, m, plain)
		}
	}
}

func compare(t *testing.T, m *sorted.Map[int, uint32], plain map[int]uint32) {
	t.Helper()
	keys := slices.Sorted(maps.Keys(plain))
	if !slices.Equal(m.Keys(), keys) || m.Len() != len(keys) {
		t.Fatalf("P101: %v, not %v", m.Keys(), keys)
	}
	for i, k := range keys {
		if a, v, ok := m.At(i); a != k || v != plain[k] || !ok {
			t.Fatalf("P101: At %d: %d, %d, %v", i, a, v, ok)
		}
	}
	for k := -1; k <= 64; k++ {
		v, ok := m.Get(k)
		if w, there := plain[k]; v != w || ok != there {
			t.Fatalf("P101: Get %d: %d, %v", k, v, ok)
		}
		var floor, ceil int
		var below, above bool
		for _, a := range keys {
			if a <= k {
				floor, below = a, true
			}
			if a >= k && !above {
				ceil, above = a, true
			}
		}
		if f, ok := m.Floor(k); f != floor || ok != below {
			t.Fatalf("P101: Floor %d: %d, %v", k, f, ok)
		}
		if c, ok := m.Ceil(k); c != ceil || ok != above {
			t.Fatalf("P101: Ceil %d: %d, %v", k, c, ok)
		}
	}
}

func TestP101ValuesOfEveryKind(t *testing.T) {
	lists := sorted.New[string, []int]()
	lists.Put("b", nil)
	lists.Put("a", []int{1, 2})
	want(t, "P101: lists", told(lists), "2 [a b] a:[1 2]:true b:[]:true")
	if v, ok := lists.Get("c"); v != nil || ok {
		t.Errorf("P4: %v, %v", v, ok)
	}
	none := sorted.New[int, struct{}]()
	none.Put(2, struct{}{})
	none.Put(1, struct{}{})
	want(t, "P101: nothing", told(none), "2 [1 2] 1:{}:true 2:{}:true")
	funcs := sorted.New[int, func() int]()
	funcs.Put(1, func() int { return 5 })
	if f, ok := funcs.Get(1); !ok || f() != 5 {
		t.Error("P101: functions")
	}
	maps := sorted.New[int, *sorted.Map[int, int]]()
	inner := lay(4)
	maps.Put(1, inner)
	if v, ok := maps.Twin().Get(1); v != inner || !ok {
		t.Error("P101: a twin has the same values")
	}
}

// TestP1KeysThatAreNotAsThemselves: nothing is promised of NaN but that each call ends (P8).
func TestP1KeysThatAreNotAsThemselves(t *testing.T) {
	m := lay(1.5, math.NaN(), -1.5, math.NaN(), math.Inf(-1), math.NaN())
	for _, k := range []float64{math.NaN(), 0, 1.5} {
		m.Get(k)
		m.Floor(k)
		m.Ceil(k)
		m.Twin().Drop(k)
		m.Drop(k)
	}
	k := m.Keys()
	for i := range k {
		k[i] = 7
	}
	if slices.Contains(m.Keys(), 7) {
		t.Error("P2: Keys")
	}
	m.At(m.Len())
}
