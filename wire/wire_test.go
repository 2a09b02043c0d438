package wire_test

import (
	"bytes"
	"fmt"
	"math"
	"slices"
	"strings"
	"testing"

	"canton/api"
	"canton/codec"
	"canton/row"
	"canton/stamp"
	"canton/value"
	"canton/wire"
)

func num(n int64) value.Value { return value.Value{Kind: api.Int, I: n} }

func text(s string) value.Value { return value.Value{Kind: api.Text, S: s} }

func list(l ...int64) value.Value { return value.Value{Kind: api.List, L: l} }

func attr(name string, v value.Value) row.Attr { return row.Attr{Name: name, Value: v} }

// upTo answers 0, 1, .. below n.
func upTo(n int) []int64 {
	l := []int64{}
	for i := range n {
		l = append(l, int64(i))
	}
	return l
}

func made(key string, l ...row.Attr) row.Row {
	return row.Row{Key: key, Stamp: stamp.Stamp{Tick: 1, Inc: 2, Seq: 3, Origin: "/z/k"}, Attrs: l}
}

// wide answers a row of n attributes of all kinds.
func wide(n int) row.Row {
	r := made("wide")
	for i := range n {
		v := []value.Value{num(int64(-i)), text(strings.Repeat("t", i)), list(upTo(i % 17)...)}[i%3]
		r.Attrs = append(r.Attrs, attr(fmt.Sprintf("a%03d", i), v))
	}
	return r
}

// samples answers rows that may be, at the limits too.
func samples() []row.Row {
	return []row.Row{
		made("k"), made("abcdefgh", attr("a", num(1))), made("k", attr("a", num(-1)), attr("b", text("xy")), attr("c", list(4, 5))),
		{Key: "k", Stamp: stamp.Stamp{Origin: "/o"}},
		{Key: "k", Stamp: stamp.Stamp{Tick: api.MaxTick, Inc: api.MaxTick, Seq: api.MaxTick, Origin: "/abcdefgh/abcdefgh/abcdefgh/abcdefgh"}},
		made("k", attr("a", num(math.MinInt64)), attr("b", num(math.MaxInt64)), attr("c", num(0))),
		made("k", attr("a", text("")), attr("b", text(strings.Repeat("~", 64))), attr("c", text("{ [=] }"))),
		made("k", attr("a", list()), attr("b", list(upTo(16)...)), attr("c", list(math.MinInt64, math.MaxInt64))),
		wide(31), wide(32),
	}
}

// many answers n rows that may be.
func many(n int) []row.Row {
	var l []row.Row
	for i := range n {
		l = append(l, made(fmt.Sprint("k", i), attr("a", num(int64(i))), attr("b", list(upTo(i%5)...))))
	}
	return l
}

// told is all that x has, in Go's own words, but that no list is an empty one.
func told[T any](x T) string { return fmt.Sprintf("%+v", x) }

// written answers what an Enc has behind call.
func written(call func(e *codec.Enc)) string {
	var e codec.Enc
	call(&e)
	return string(e.Bytes())
}

func putValue(v value.Value) string {
	return written(func(e *codec.Enc) { wire.PutValue(e, v) })
}

func putStamp(s stamp.Stamp) string {
	return written(func(e *codec.Enc) { wire.PutStamp(e, s) })
}

func putRow(r row.Row) string {
	return written(func(e *codec.Enc) { wire.PutRow(e, r) })
}

// taking wants that take reads want of b, which stands between a number and one more.
func taking[T any](t *testing.T, b string, want T, take func(d *codec.Dec) T) {
	t.Helper()
	d := codec.Of([]byte(formInt(300) + b + "\x0ex"))
	d.Int()
	if got := take(d); told(got) != told(want) || d.Err() != api.OK || d.Left() != 2 || d.Int() != 7 {
		t.Errorf("P701: %.40x: %+v, not %+v; left %d, %v", b, got, want, d.Left(), d.Err())
	}
}

// failing wants that take has the error want in b, and all is zero then.
func failing[T any](t *testing.T, b string, want api.Errno, take func(d *codec.Dec) T) {
	t.Helper()
	var none T
	d := codec.Of([]byte(b))
	for range 2 {
		if got := take(d); told(got) != told(none) || d.Err() != want || d.Left() != 0 {
			t.Fatalf("P701: %.40x: %+v; left %d, %v, not %v", b, got, d.Left(), d.Err(), want)
		}
	}
}

// eachCut wants that each front of b is short.
func eachCut[T any](t *testing.T, b string, take func(d *codec.Dec) T) {
	t.Helper()
	for n := range len(b) {
		failing(t, b[:n], api.ErrShort, take)
	}
}

func TestP701Value(t *testing.T) {
	x64 := strings.Repeat("x", 64)
	for _, c := range []struct {
		v    value.Value
		want string
	}{
		{num(0), "\x02\x00"}, {num(-1), "\x02\x01"}, {num(5), "\x02\x0a"}, {num(64), "\x02\x80\x01"},
		{num(math.MaxInt64), "\x02\xfe\xff\xff\xff\xff\xff\xff\xff\xff\x01"}, {num(math.MinInt64), "\x02\xff\xff\xff\xff\xff\xff\xff\xff\xff\x01"},
		{text(""), "\x04\x00"}, {text("xy"), "\x04\x04xy"}, {text(x64), "\x04\x80\x01" + x64}, {text(x64 + "x\"\x00\xff"), "\x04\x88\x01" + x64 + "x\"\x00\xff"},
		{list(), "\x06\x00"}, {value.Value{Kind: 3, L: []int64{}}, "\x06\x00"}, {list(4), "\x06\x02\x08"}, {list(4, 5), "\x06\x04\x08\x0a"}, {list(-64, -65), "\x06\x04\x7f\x81\x01"},
		{list(2, 2, 1), "\x06\x06\x04\x04\x02"}, {list(upTo(16)...), "\x06\x20\x00\x02\x04\x06\x08\x0a\x0c\x0e\x10\x12\x14\x16\x18\x1a\x1c\x1e"},
	} {
		if got := putValue(c.v); got != c.want {
			t.Errorf("P701: PutValue(%+v): %x, not %x", c.v, got, c.want)
		}
		taking(t, c.want, c.v, wire.TakeValue)
		eachCut(t, c.want, wire.TakeValue)
	}
}

func TestP701ValueOfNoKind(t *testing.T) {
	for k, want := range map[int]string{0: "\x00", -1: "\x01", -2: "\x03", -3: "\x05", 4: "\x08", 9: "\x12", 257: "\x82\x04", math.MaxInt: formInt(math.MaxInt), math.MinInt: formInt(math.MinInt)} {
		if got := putValue(value.Value{Kind: k, I: 5, S: "s", L: []int64{6}}); got != want {
			t.Errorf("P701: PutValue of Kind %d: %x, not %x", k, got, want)
		}
		taking(t, want, value.Value{Kind: k}, wire.TakeValue)
	}
}

// TestP4OnlyWhatTheKindNames: the others are neither written nor read.
func TestP4OnlyWhatTheKindNames(t *testing.T) {
	for _, v := range []value.Value{num(5), text("xy"), list(4, 5)} {
		full := value.Value{Kind: v.Kind, I: 5, S: "xy", L: []int64{4, 5}}
		if got := putValue(full); got != putValue(v) {
			t.Errorf("P4: %+v: %x", full, got)
		}
		taking(t, putValue(full), v, wire.TakeValue)
	}
}

func TestP701NoValue(t *testing.T) {
	for _, b := range []string{
		"\x80\x00", "\x82\x00", "\xff\xff\xff\xff\xff\xff\xff\xff\xff\x02", // a Kind
		"\x02\x80\x00", "\x02\x81\x80\x00", "\x02\xff\xff\xff\xff\xff\xff\xff\xff\xff\x7f", // a number
		"\x04\x01", "\x04\x03ab", "\x04\x82\x00a", // a text
		"\x06\x01", "\x06\x03\x02\x02", "\x06\x80\x00", "\x06\x02\x80\x00", "\x06\x06\x02\x04\x86\x00", // a list
		"\x06\x22" + strings.Repeat("\x02", 17), "\x06\x22", "\x06\x80\x02" + strings.Repeat("\x02", 128), "\x06" + formInt(math.MaxInt64), "\x06" + formInt(math.MinInt64),
	} {
		failing(t, b, api.ErrForm, wire.TakeValue)
	}
	for _, b := range []string{"", "\x82", "\x02", "\x02\xff", "\x04", "\x04\x08abc", "\x04" + formInt(math.MaxInt64) + "a", "\x06\x20", "\x06\x04\x02", "\x06\x04\x02\x80"} {
		failing(t, b, api.ErrShort, wire.TakeValue)
	}
}

func TestP701Stamp(t *testing.T) {
	for _, c := range []struct {
		s    stamp.Stamp
		want string
	}{
		{stamp.Stamp{}, "\x00\x00\x00\x00"}, {stamp.Stamp{Tick: 1, Inc: 2, Seq: 3, Origin: "/k"}, "\x02\x04\x06\x04/k"},
		{stamp.Stamp{Tick: 64, Inc: -1, Seq: 65, Origin: "K"}, "\x80\x01\x01\x82\x01\x02K"},
		{stamp.Stamp{Tick: api.MaxTick, Origin: "/"}, "\x80\xa8\xd6\xb9\x07\x00\x00\x02/"},
		{stamp.Stamp{Inc: math.MaxInt64, Seq: math.MinInt64}, "\x00" + formInt(math.MaxInt64, math.MinInt64) + "\x00"},
	} {
		if got := putStamp(c.s); got != c.want {
			t.Errorf("P701: PutStamp(%+v): %x, not %x", c.s, got, c.want)
		}
		taking(t, c.want, c.s, wire.TakeStamp)
		eachCut(t, c.want, wire.TakeStamp)
	}
	for _, b := range []string{"\x80\x00", "\x02\x80\x00", "\x02\x04\x80\x00", "\x02\x04\x06\x80\x00", "\x02\x04\x06\x01", "\x02\x04\x06\x03/k"} {
		failing(t, b, api.ErrForm, wire.TakeStamp)
	}
	failing(t, "\x02\x04\x06\x06/k", api.ErrShort, wire.TakeStamp)
}

func TestP701Row(t *testing.T) {
	for _, c := range []struct {
		r    row.Row
		want string
	}{
		{row.Row{}, "\x00\x00\x00\x00\x00\x00"}, {row.Row{Key: "k", Attrs: []row.Attr{}}, "\x02k\x00\x00\x00\x00\x00"},
		{made("k1"), "\x04k1\x02\x04\x06\x08/z/k\x00"},
		{made("k", attr("a", num(-1)), attr("b", text("xy")), attr("c", list(4, 5))), "\x02k\x02\x04\x06\x08/z/k\x06\x02a\x02\x01\x02b\x04\x04xy\x02c\x06\x04\x08\x0a"},
		{made("K", attr("b", value.Value{}), attr("", num(2)), attr("b", value.Value{Kind: 4})), "\x02K\x02\x04\x06\x08/z/k\x06\x02b\x00\x00\x02\x04\x02b\x08"},
	} {
		if got := putRow(c.r); got != c.want {
			t.Errorf("P701: PutRow(%+v): %x, not %x", c.r, got, c.want)
		}
		taking(t, c.want, c.r, wire.TakeRow)
		eachCut(t, c.want, wire.TakeRow)
	}
	for _, r := range samples() {
		if got := putRow(r); got != formRow(r) {
			t.Errorf("P701: PutRow(%+v): %x", r, got)
		}
		taking(t, formRow(r), r, wire.TakeRow)
		eachCut(t, formRow(r), wire.TakeRow)
	}
}

func TestP701NoRow(t *testing.T) {
	front := formRow(made("k"))
	front = front[:len(front)-1]
	for _, b := range []string{
		"\x01", "\x80\x00", "\x02k\x02\x04\x06\x01", front + "\x01", front + "\x80\x00", front + "\x42", front + formInt(math.MaxInt64),
		formRow(wide(33)), front + "\x02\x01", front + "\x02\x02a\x06\x22", front + "\x02\x02a\x02\x80\x00", front + "\x04\x02a\x02\x02\x02b\x04\x01",
	} {
		failing(t, b, api.ErrForm, wire.TakeRow)
	}
	failing(t, front+"\x40", api.ErrShort, wire.TakeRow)
	failing(t, front+"\x02\x04a", api.ErrShort, wire.TakeRow)
}

// TestP701BehindAnError: what was wrong ahead of a Take stays, and it is zero.
func TestP701BehindAnError(t *testing.T) {
	b := "\x80\x00" + formRow(wide(9))
	first := func(d *codec.Dec) *codec.Dec {
		d.Int()
		return d
	}
	failing(t, b, api.ErrForm, func(d *codec.Dec) value.Value { return wire.TakeValue(first(d)) })
	failing(t, b, api.ErrForm, func(d *codec.Dec) stamp.Stamp { return wire.TakeStamp(first(d)) })
	failing(t, b, api.ErrForm, func(d *codec.Dec) row.Row { return wire.TakeRow(first(d)) })
}

// decodes wants of Decode what the form, written down again, makes of b.
func decodes(t *testing.T, b string) api.Errno {
	t.Helper()
	want, e := opening(b, (*reader).row, row.Check)
	got, g := wire.Decode([]byte(b))
	if g != e || told(got) != told(want) {
		t.Fatalf("P701: Decode(%.60x): %+v, %v, not %+v, %v", b, got, g, want, e)
	}
	if again, _ := wire.Encode(got); g == api.OK && string(again) != b {
		t.Fatalf("P701: Decode(%.60x): Encoded again %x", b, again)
	}
	return e
}

// listed wants of Rows what the form, written down again, makes of b.
func listed(t *testing.T, b string) api.Errno {
	t.Helper()
	want, e := opening(b, (*reader).rows, checkRows)
	got, g := wire.Rows([]byte(b))
	if g != e || told(got) != told(want) {
		t.Fatalf("P701: Rows(%.60x): %+v, %v, not %+v, %v", b, got, g, want, e)
	}
	if again, _ := wire.All(got); g == api.OK && string(again) != b {
		t.Fatalf("P701: Rows(%.60x): All again %x", b, again)
	}
	return e
}

func TestP701Encode(t *testing.T) {
	if b, e := wire.Encode(made("k")); string(b) != "\x02k\x02\x04\x06\x08/z/k\x00\x1d\x2d\xd8\xcd" || e != api.OK {
		t.Errorf("P701: %x, %v", b, e)
	}
	for _, r := range samples() {
		b, e := wire.Encode(r)
		if string(b) != sealed(formRow(r)) || e != api.OK {
			t.Errorf("P701: Encode(%+v): %x, %v", r, b, e)
		}
		if x, e := wire.Decode(b); told(x) != told(r) || e != api.OK {
			t.Errorf("P701: Decode: %+v, %v, not %+v", x, e, r)
		}
	}
}

// bad answers rows that may not be, each with row.Check's error.
func bad() map[api.Errno][]row.Row {
	far := made("k")
	far.Stamp.Tick = api.MaxTick + 1
	below := made("k")
	below.Stamp.Seq = -1
	root := made("k")
	root.Stamp.Origin = "/"
	return map[api.Errno][]row.Row{
		api.ErrName:  {{}, made("K"), made(""), made("abcdefghi"), root, made("k", attr("A", num(1))), made("k", attr("", num(1)))},
		api.ErrArg:   {far, below},
		api.ErrLong:  {wide(33), made("k", attr("a", text(strings.Repeat("a", 65)))), made("k", attr("a", list(upTo(17)...)))},
		api.ErrTwice: {made("k", attr("a", num(1)), attr("a", num(1))), made("k", attr("b", num(1)), attr("a", num(1)))},
		api.ErrKind:  {made("k", attr("a", value.Value{})), made("k", attr("a", value.Value{Kind: 4})), made("k", attr("a", num(1)), attr("b", value.Value{Kind: -1}))},
		api.ErrForm:  {made("k", attr("a", text("\""))), made("k", attr("a", text("é"))), made("k", attr("a", list(1, 1))), made("k", attr("a", list(2, 1)))},
	}
}

func TestP701WhatMayNotBe(t *testing.T) {
	for want, l := range bad() {
		for _, r := range l {
			if b, e := wire.Encode(r); len(b) != 0 || e != want {
				t.Errorf("P701: Encode(%+v): %x, %v, not %v", r, b, e, want)
			}
			if b, e := wire.All([]row.Row{made("k"), r}); len(b) != 0 || e != want {
				t.Errorf("P701: All of %+v: %x, %v, not %v", r, b, e, want)
			}
			read := want
			if len(r.Attrs) > 32 || len(r.Attrs) == 1 && len(r.Attrs[0].Value.L) > 16 {
				read = api.ErrForm // Many refuses it, ahead of Check
			}
			if e := decodes(t, sealed(formRow(r))); e != read {
				t.Errorf("P701: Decode of %+v: %v, not %v", r, e, read)
			}
			if e := listed(t, sealed(formRows(made("k"), r))); e != read {
				t.Errorf("P701: Rows of %+v: %v, not %v", r, e, read)
			}
		}
	}
}

func TestP701DecodeErrors(t *testing.T) {
	good := formRow(wide(3))
	for _, c := range []struct {
		b    string
		want api.Errno
	}{
		{"", api.ErrShort}, {"\x00\x00\x00", api.ErrShort}, {sealed(good)[:3], api.ErrShort}, {"\x00\x00\x00\x00", api.ErrShort}, // nothing, sealed
		{good, api.ErrSum}, {"\x00\x00\x00\x01", api.ErrSum}, {sealed(good) + "\x00", api.ErrSum}, {"\x02k" + sealed(good), api.ErrSum},
		{sealed(good[:9]), api.ErrShort}, {sealed("\x80\x00"), api.ErrForm}, {sealed(good + "\x00"), api.ErrForm}, {sealed(good + good), api.ErrForm}, {sealed(sealed(good)), api.ErrForm},
		{sealed(formRows(made("k"))), api.ErrForm}, {sealed(formRow(wide(33))), api.ErrForm},
	} {
		if e := decodes(t, c.b); e != c.want {
			t.Errorf("P701: Decode(%.60x): %v, not %v", c.b, e, c.want)
		}
	}
}

// TestP6DecodeOrder: each error ahead of those behind it.
func TestP6DecodeOrder(t *testing.T) {
	wrong := formRow(made("K", attr("a", num(1)), attr("a", value.Value{})))
	for _, c := range []struct {
		b    string
		want api.Errno
	}{
		{sealed(wrong), api.ErrName}, {sealed(wrong + "\x00"), api.ErrForm}, {sealed(wrong[:len(wrong)-1]), api.ErrShort},
		{wrong[:len(wrong)-1] + "\x80\x00" + "sums", api.ErrSum}, {wrong + "\x00sums", api.ErrSum},
		{sealed(wrong[:len(wrong)-1] + "\x80\x00"), api.ErrForm}, {sealed(wrong[:len(wrong)-1] + "\x06\x22"), api.ErrForm},
	} {
		if e := decodes(t, c.b); e != c.want {
			t.Errorf("P6: Decode(%x): %v, not %v", c.b, e, c.want)
		}
	}
}

func TestP701All(t *testing.T) {
	if b, e := wire.All(nil); string(b) != "\x00\x8d\xef\x02\xd2" || e != api.OK {
		t.Errorf("P701: %x, %v", b, e)
	}
	if b, e := wire.All([]row.Row{}); string(b) != "\x00\x8d\xef\x02\xd2" || e != api.OK {
		t.Errorf("P701: %x, %v", b, e)
	}
	k := made("k")
	for _, l := range [][]row.Row{nil, {k}, {k, k}, {made("b"), made("a")}, samples(), many(2), many(63), many(64), slices.Repeat([]row.Row{wide(32)}, 64)} {
		b, e := wire.All(l)
		if string(b) != sealed(formRows(l...)) || e != api.OK {
			t.Errorf("P701: All of %d: %.60x, %v", len(l), b, e)
		}
		if x, e := wire.Rows(b); told(x) != told(l) || e != api.OK {
			t.Errorf("P701: Rows of %d: %+v, %v", len(l), x, e)
		}
	}
}

func TestP6AllOrder(t *testing.T) {
	twice, kind := made("k", attr("a", num(1)), attr("a", num(1))), made("k", attr("a", value.Value{}))
	for _, c := range []struct {
		l    []row.Row
		want api.Errno
	}{
		{many(65), api.ErrLong}, {many(1000), api.ErrLong}, {make([]row.Row, 65), api.ErrLong}, {append(many(64), twice), api.ErrLong}, {append([]row.Row{kind}, many(64)...), api.ErrLong},
		{append(many(63), twice), api.ErrTwice}, {[]row.Row{twice, kind, {}}, api.ErrTwice}, {[]row.Row{made("k"), kind, twice}, api.ErrKind}, {make([]row.Row, 64), api.ErrName},
	} {
		if b, e := wire.All(c.l); len(b) != 0 || e != c.want {
			t.Errorf("P6: All of %d: %v, not %v", len(c.l), e, c.want)
		}
	}
}

func TestP701RowsErrors(t *testing.T) {
	twice, kind := made("k", attr("a", num(1)), attr("a", num(1))), made("k", attr("a", value.Value{}))
	good := formRows(many(2)...)
	for _, c := range []struct {
		b    string
		want api.Errno
	}{
		{"", api.ErrShort}, {"\x00\x00\x00", api.ErrShort}, {"\x00\x00\x00\x00", api.ErrShort}, {good, api.ErrSum}, {sealed(good) + "\x00", api.ErrSum},
		{sealed("\x00"), api.OK}, {sealed("\x01"), api.ErrForm}, {sealed("\x80\x00"), api.ErrForm}, {sealed("\x00\x00"), api.ErrForm}, {sealed(good + "\x00"), api.ErrForm}, {sealed(good[:len(good)-1]), api.ErrShort},
		{sealed(formRows(many(64)...)), api.OK}, {sealed(formRows(many(65)...)), api.ErrForm}, {sealed("\x82\x01"), api.ErrForm}, {sealed("\x80\x01"), api.ErrShort},
		{sealed(formInt(math.MaxInt64)), api.ErrForm}, {sealed(formInt(1 << 32)), api.ErrForm}, {sealed(formInt(math.MinInt64)), api.ErrForm}, {sealed(formRow(made("k"))), api.ErrForm},
		{sealed(formRows(twice, kind, row.Row{})), api.ErrTwice}, {sealed(formRows(made("k"), kind, twice)), api.ErrKind}, {sealed(formRows(append(many(63), kind)...)), api.ErrKind},
		// A fault of the bytes counts ahead of what a row may not be, though it is behind it.
		{sealed(formRows(twice, kind) + "\x00"), api.ErrForm}, {sealed("\x06" + formRow(twice) + formRow(kind)), api.ErrShort}, {sealed("\x06" + formRow(twice) + formRow(kind) + "\x01"), api.ErrForm},
		{sealed("\x04" + formRow(kind) + formRow(wide(33))), api.ErrForm}, {formRows(twice) + "\x00sums", api.ErrSum},
	} {
		if e := listed(t, c.b); e != c.want {
			t.Errorf("P701: Rows(%.60x): %v, not %v", c.b, e, c.want)
		}
	}
}

// TestP701EachByte: each byte at each place, sealed anew and not; and each cut.
func TestP701EachByte(t *testing.T) {
	for _, rows := range []bool{false, true} {
		in, call := formRow(wide(4)), decodes
		if rows {
			in, call = formRows(made("k", attr("a", text("x"))), made("l", attr("b", list(1)))), listed
		}
		whole := sealed(in)
		for i := range len(whole) {
			if e := call(t, whole[:i]); e == api.OK {
				t.Errorf("P701: cut to %d", i)
			}
			for c := range 256 {
				bent := whole[:i] + string([]byte{byte(c)}) + whole[i+1:]
				if e := call(t, bent); (e == api.OK) != (bent == whole) {
					t.Errorf("P701: bent at %d: %v", i, e)
				}
				if i < len(in) {
					call(t, sealed(bent[:len(in)]))
				}
			}
		}
		for i := range len(in) {
			call(t, sealed(in[:i]))
			call(t, sealed(in[i:]))
			call(t, sealed(in[:i]+in[i+1:]))
			call(t, sealed(in[:i]+"\x02"+in[i:]))
		}
	}
}

// takes wants of take what the form, written down again, makes of b.
func takes[T any](t *testing.T, b string, take func(*codec.Dec) T, form func(*reader) T) {
	t.Helper()
	want, left, e := reading(b, form)
	d := codec.Of([]byte(b))
	if got := take(d); told(got) != told(want) || d.Err() != e || d.Left() != left {
		t.Fatalf("P701: %x: %+v, left %d, %v, not %+v, left %d, %v", b, got, d.Left(), d.Err(), want, left, e)
	}
}

// TestP701OfAllShortBytes holds all that reads against the form, written down again.
func TestP701OfAllShortBytes(t *testing.T) {
	all := []string{""}
	for begin := 0; len(all[begin]) < 6; begin++ {
		for _, c := range "\x00\x01\x02\x04\x06a" {
			all = append(all, all[begin]+string(c))
		}
	}
	front := formRow(made("k"))
	front = front[:len(front)-1]
	for _, s := range all {
		takes(t, s, wire.TakeValue, (*reader).value)
		takes(t, s, wire.TakeStamp, (*reader).stamp)
		takes(t, s, wire.TakeRow, (*reader).row)
		takes(t, front+s, wire.TakeRow, (*reader).row)
		decodes(t, sealed(front+s))
		listed(t, sealed(s))
		listed(t, sealed("\x02"+front+s))
	}
}

// TestP1AnyData: whatever it is given, each call ends, and answers the same again (P3).
func TestP1AnyData(t *testing.T) {
	x := uint32(1)
	next := func(n int) int {
		x = x*1664525 + 1013904223
		return int(x>>8) % n
	}
	for range 20000 {
		b := make([]byte, next(60))
		for i := range b {
			b[i] = byte(next(256))
			if next(4) > 0 {
				b[i] = "\x00\x01\x02\x02\x04\x06\x08akz/"[next(11)]
			}
		}
		s := string(b)
		takes(t, s, wire.TakeValue, (*reader).value)
		takes(t, s, wire.TakeStamp, (*reader).stamp)
		takes(t, s, wire.TakeRow, (*reader).row)
		for range 2 {
			decodes(t, s)
			decodes(t, sealed(s))
			listed(t, sealed(s))
		}
		if string(b) != s {
			t.Fatalf("P2: %x, not %x", b, s)
		}
	}
}

// TestP8PutWhatMayNotBe: what no Take would read can be Put all the same.
func TestP8PutWhatMayNotBe(t *testing.T) {
	putValue(list(upTo(5000)...))
	putValue(text(strings.Repeat("\xff", 5000)))
	putStamp(stamp.Stamp{Tick: -1, Origin: strings.Repeat("/a", 999)})
	putRow(wide(900))
}

func TestP2PutKeepsNothing(t *testing.T) {
	room := []int64{4, 5, 6, 7}
	attrs := []row.Attr{attr("a", list(room[:2]...)), attr("b", num(1)), attr("c", num(2))}
	attrs[0].Value.L = room[:2]
	r := made("k", attrs[:2]...)
	was, want := told(attrs), formRow(r)
	var e codec.Enc
	wire.PutRow(&e, r)
	sealedRow, _ := wire.Encode(r)
	all, _ := wire.All([]row.Row{r})
	if told(attrs) != was || !slices.Equal(room, []int64{4, 5, 6, 7}) {
		t.Errorf("P2: %+v, %v", attrs, room)
	}
	clear(room)
	clear(attrs)
	if string(e.Bytes()) != want || string(sealedRow) != sealed(want) || string(all) != sealed("\x02"+want) {
		t.Errorf("P2: %x, %x, %x, not %x", e.Bytes(), sealedRow, all, want)
	}
}

func TestP2BytesAreNewMemory(t *testing.T) {
	a, _ := wire.Encode(wide(5))
	b, _ := wire.Encode(wide(5))
	c, _ := wire.All(many(5))
	d, _ := wire.All(many(5))
	wantB, wantD := string(b), string(d)
	for _, l := range [][]byte{a, c} {
		l = l[:cap(l)]
		copy(l, bytes.Repeat([]byte{0xEE}, len(l)))
	}
	if string(b) != wantB || string(d) != wantD {
		t.Errorf("P2: %x, %x", b, d)
	}
}

// scribble writes over all that r has, its lists' spare room too.
func scribble(r row.Row) {
	for i := range r.Attrs {
		l := r.Attrs[i].Value.L
		l = l[:cap(l)]
		for j := range l {
			l[j] = 99
		}
	}
	l := r.Attrs[:cap(r.Attrs)]
	for i := range l {
		l[i] = attr("zzz", num(99))
	}
}

func TestP2RowsAreNewMemory(t *testing.T) {
	r := made("k", attr("a", list(1, 2)), attr("b", list()), attr("c", list(3, 4, 5)))
	want := told(r)
	l := []row.Row{r, r, r}
	b, _ := wire.All(l)
	was := bytes.Clone(b)
	x, _ := wire.Rows(b)
	y, _ := wire.Rows(b)
	scribble(x[1])
	if told(x[0]) != want || told(x[2]) != want {
		t.Errorf("P2: %+v", x)
	}
	for i, v := range x[0].Attrs {
		scribble(row.Row{Attrs: []row.Attr{v}})
		for j, o := range x[0].Attrs[i+1:] {
			if told(o) != told(r.Attrs[i+1+j]) {
				t.Errorf("P2: %d: %+v", i, o)
			}
		}
	}
	if !bytes.Equal(b, was) {
		t.Errorf("P2: %x", b)
	}
	clear(b)
	if told(y) != told(l) {
		t.Errorf("P2: %+v", y)
	}
}

func TestP2DecodedIsNewMemory(t *testing.T) {
	r := wide(9)
	b, _ := wire.Encode(r)
	x, _ := wire.Decode(b)
	y, _ := wire.Decode(b)
	scribble(x)
	if string(b) != sealed(formRow(r)) {
		t.Errorf("P2: %x", b)
	}
	clear(b)
	if told(y) != told(r) {
		t.Errorf("P2: %+v", y)
	}
}
