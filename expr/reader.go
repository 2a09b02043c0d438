package expr

import (
	"slices"

	"canton/api"
	"canton/lex"
	"canton/row"
)

// How fast signs hold what is beside them.
const (
	noSign = iota
	ofSum
	ofProduct
	ofNeg
)

// lift is what a parenthesis puts to the signs within it, so that the loosest of
// them still holds faster than the fastest around it.
const lift = ofNeg

// reader reads one expression out of tokens. No call of it calls itself for a
// parenthesis: there may be as many of them as there are tokens.
type reader struct {
	l     []lex.Token
	at    int    // the next one
	open  int    // parentheses that are not closed yet
	nodes int    // how many the tokens till now make
	signs []sign // those that still wait for what is behind them
	done  []Node // what they are going to take, and the last one
}

type sign struct {
	op    string
	holds int
}

// sum reads factors and the signs between them, as far as they go.
func (r *reader) sum() api.Errno {
	for {
		if e := r.factor(); e != api.OK {
			return e
		}
		r.shut()
		holds := between(r.next())
		if holds == noSign {
			return r.end()
		}
		holds += r.open * lift
		// What is of the same rank goes together from the first on.
		r.join(holds)
		if e := r.wait(sign{r.next().Text, holds}); e != api.OK {
			return e
		}
	}
}

// factor reads a number or a name, and what opens or turns it ahead of it.
func (r *reader) factor() api.Errno {
	for {
		switch t := r.next(); {
		case isSign(t, "("):
			r.open++
			r.at++
		case isSign(t, "-"):
			if e := r.wait(sign{opNeg, ofNeg + r.open*lift}); e != api.OK {
				return e
			}
		case t.Kind == lex.Num && t.N >= 0:
			return r.leaf(Node{Op: opNum, N: t.N})
		case t.Kind == lex.Name && row.Name(t.Text):
			return r.leaf(Node{Op: opName, Name: t.Text})
		default:
			return api.ErrForm
		}
	}
}

// shut reads what closes behind a factor.
func (r *reader) shut() {
	for r.open > 0 && isSign(r.next(), ")") {
		r.open--
		r.at++
	}
}

// end tells whether it may end here.
func (r *reader) end() api.Errno {
	if r.open > 0 {
		return api.ErrForm
	}
	return api.OK
}

// leaf keeps what the next token is.
func (r *reader) leaf(n Node) api.Errno {
	if e := r.count(); e != api.OK {
		return e
	}
	r.done = append(r.done, n)
	return api.OK
}

// wait keeps the sign that the next token is.
func (r *reader) wait(s sign) api.Errno {
	if e := r.count(); e != api.OK {
		return e
	}
	r.signs = append(r.signs, s)
	return api.OK
}

// count goes past the next token, which makes a Node.
func (r *reader) count() api.Errno {
	if r.nodes == api.MaxNodes {
		return api.ErrLong
	}
	r.nodes++
	r.at++
	return api.OK
}

// join makes Nodes of the signs that wait, the last first, as far as they hold what
// is behind them at least so fast.
func (r *reader) join(holds int) {
	for n := len(r.signs) - 1; n >= 0 && r.signs[n].holds >= holds; n-- {
		op := r.signs[n].op
		first := len(r.done) - kidsOf(op)
		kids := slices.Clone(r.done[first:])
		r.done = append(r.done[:first], Node{Op: op, Kids: kids})
		r.signs = r.signs[:n]
	}
}

// whole answers what all that was read is.
func (r *reader) whole() Node {
	r.join(noSign)
	return r.done[0]
}

// next answers the token that is to be read; behind the last, one of no Kind.
func (r *reader) next() lex.Token {
	if r.at == len(r.l) {
		return lex.Token{}
	}
	return r.l[r.at]
}

func isSign(t lex.Token, text string) bool { return t.Kind == lex.Sign && t.Text == text }

// between answers how fast t holds factors together; noSign: it doesn't.
func between(t lex.Token) int {
	if t.Kind != lex.Sign {
		return noSign
	}
	switch t.Text {
	case "+", "-":
		return ofSum
	case "*", "/", "%":
		return ofProduct
	}
	return noSign
}
