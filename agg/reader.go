package agg

import (
	"canton/api"
	"canton/expr"
	"canton/lex"
)

// Parse answers the Agg that s is; beside an error, where in s that is.
func Parse(s string) (Agg, int, api.Errno) {
	l, at, e := lex.Tokens(s)
	if e != api.OK {
		return Agg{}, at, e
	}
	r := reader{l: l}
	a := r.agg()
	if r.e != api.OK {
		return Agg{}, byteOf(s, l, r.at), r.e
	}
	return a, 0, api.OK
}

// byteOf answers where in s, which l are the tokens of, the one at this place is.
func byteOf(s string, l []lex.Token, at int) int {
	if at == len(l) {
		return len(s)
	}
	return l[at].At
}

// reader reads an Agg out of tokens. Its first error stands: from there on it stays
// where it is, and what it reads is nothing.
type reader struct {
	l  []lex.Token
	at int // the next one
	e  api.Errno
}

// agg reads all of the tokens.
func (r *reader) agg() Agg {
	a := Agg{Func: r.name()}
	r.sign("(")
	r.args(&a)
	r.sign(")")
	a.Where = r.conds()
	return a
}

// name reads the name of a Func.
func (r *reader) name() string {
	t := r.next()
	_, there := partsOf(t.Text)
	r.must(t.Kind == lex.Name, api.ErrForm)
	r.must(there, api.ErrName)
	r.step()
	return t.Text
}

// args reads what stands in a's parentheses.
func (r *reader) args(a *Agg) {
	p, _ := partsOf(a.Func)
	if p.k {
		a.K = r.k()
		r.sign(",")
	}
	if p.e {
		a.E = r.node()
	}
	if p.by {
		r.sign(",")
		a.By = r.node()
	}
}

func (r *reader) k() int64 {
	t := r.next()
	r.must(t.Kind == lex.Num, api.ErrForm)
	r.must(mayBeK(t.N), api.ErrArg)
	r.step()
	return t.N
}

// conds reads conditions, as far as there are tokens.
func (r *reader) conds() []Cond {
	var l []Cond
	word := wordWhere
	for r.e == api.OK && r.at < len(r.l) {
		t := r.next()
		r.must(t.Kind == lex.Name && t.Text == word, api.ErrForm)
		r.must(len(l) < maxConds, api.ErrLong)
		r.step()
		l = append(l, r.cond())
		word = wordAnd
	}
	return l
}

func (r *reader) cond() Cond {
	a := r.node()
	t := r.next()
	r.must(t.Kind == lex.Sign && mayBeOp(t.Text), api.ErrForm)
	r.step()
	return Cond{Op: t.Text, A: a, B: r.node()}
}

// node reads an expression, as far as it goes.
func (r *reader) node() expr.Node {
	if r.e != api.OK {
		return expr.Node{}
	}
	n, at, e := expr.Of(r.l, r.at)
	r.at, r.e = at, e
	return n
}

func (r *reader) sign(text string) {
	t := r.next()
	r.must(t.Kind == lex.Sign && t.Text == text, api.ErrForm)
	r.step()
}

// must keeps e, if the next token is not as it must be.
func (r *reader) must(so bool, e api.Errno) {
	if !so && r.e == api.OK {
		r.e = e
	}
}

// step goes past the next token.
func (r *reader) step() {
	if r.e == api.OK {
		r.at++
	}
}

// next answers the token that is to be read; behind the last, one of no Kind.
func (r *reader) next() lex.Token {
	if r.at == len(r.l) {
		return lex.Token{}
	}
	return r.l[r.at]
}
