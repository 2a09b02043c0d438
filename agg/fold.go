package agg

import (
	"iter"
	"slices"

	"canton/api"
	"canton/calc"
	"canton/row"
	"canton/value"
)

// taken is what a row gives to a fold: E and By of it, as far as the Func has them.
type taken struct{ e, by int64 }

// Eval answers what the rows of l come to; false: a may not be, or they come to
// nothing.
func Eval(a Agg, l [][]row.Attr) (value.Value, bool) {
	if Check(a) != api.OK {
		return value.Value{}, false
	}
	all := takenOf(a, l)
	switch a.Func {
	case funcCount:
		return number(fold(all, 0, func(n int64, _ taken) int64 { return n + 1 })), true
	case funcSum:
		return number(fold(all, 0, func(n int64, t taken) int64 { return value.Add(n, t.e) })), true
	case funcTop:
		greatest := fold(all, nil, func(l []int64, t taken) []int64 { return keep(l, t.e, int(a.K)) })
		return value.Value{Kind: api.List, L: greatest}, true
	}
	t, there := best(all, betterOf(a.Func))
	if !there {
		return value.Value{}, false
	}
	return number(t.e), true
}

func number(n int64) value.Value { return value.Value{Kind: api.Int, I: n} }

// fold answers what step makes of from and, one behind the other, all of l.
func fold[T, S any](l iter.Seq[T], from S, step func(till S, t T) S) S {
	till := from
	for t := range l {
		till = step(till, t)
	}
	return till
}

// best answers the first of l than which no other is better; false: there is none.
func best[T any](l iter.Seq[T], better func(a, b T) bool) (T, bool) {
	var till T
	there := false
	for t := range l {
		if !there || better(t, till) {
			till, there = t, true
		}
	}
	return till, there
}

// betterOf answers which of two rows a Func that takes one of all takes.
func betterOf(name string) func(a, b taken) bool {
	switch name {
	case funcMin:
		return func(a, b taken) bool { return a.e < b.e }
	case funcMax:
		return func(a, b taken) bool { return a.e > b.e }
	}
	return func(a, b taken) bool { return a.by < b.by }
}

// keep answers l, which rises, with n in its place, and of that the greatest most.
func keep(l []int64, n int64, most int) []int64 {
	at, there := slices.BinarySearch(l, n)
	if there {
		return l
	}
	l = slices.Insert(l, at, n)
	return slices.Delete(l, 0, max(0, len(l)-most))
}

// takenOf goes over the rows of l that count, in their order.
func takenOf(a Agg, l [][]row.Attr) iter.Seq[taken] {
	p, _ := partsOf(a.Func)
	return func(yield func(taken) bool) {
		for _, r := range l {
			t, counts := take(a, p, r)
			if counts && !yield(t) {
				return
			}
		}
	}
}

// take answers what r gives; false: a condition doesn't hold in it, or it has not
// all that the Func asks for.
func take(a Agg, p parts, r []row.Attr) (taken, bool) {
	for _, c := range a.Where {
		if !holds(c, r) {
			return taken{}, false
		}
	}
	var t taken
	there := true
	if p.e {
		t.e, there = calc.Eval(a.E, r)
	}
	if p.by && there {
		t.by, there = calc.Eval(a.By, r)
	}
	return t, there
}

func holds(c Cond, r []row.Attr) bool {
	a, there := calc.Eval(c.A, r)
	b, too := calc.Eval(c.B, r)
	so, _ := calc.Holds(c.Op, a, b)
	return there && too && so
}
