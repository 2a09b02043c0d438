package codec_test

import (
	"bytes"
	"encoding/binary"
	"fmt"
	"math"
	"math/big"
	"slices"
	"strings"
	"testing"

	"canton/api"
	"canton/codec"
)

// ff is what a number of more than nine bytes begins with, 63 bits of ones.
const ff = "\xff\xff\xff\xff\xff\xff\xff\xff\xff"

// ints answers what an Enc makes of l.
func ints(l ...int64) string {
	var e codec.Enc
	e.Int(l...)
	return string(e.Bytes())
}

func texts(l ...string) string {
	var e codec.Enc
	e.Text(l...)
	return string(e.Bytes())
}

func of(s string) *codec.Dec { return codec.Of([]byte(s)) }

// numbers answers numbers at which an Int has another byte, and their neighbours.
func numbers() []int64 {
	l := []int64{0, 1, -1, 300, -300, math.MaxInt64, math.MinInt64, math.MaxInt32, math.MinInt32, math.MaxUint32}
	for bit := range 64 {
		n := int64(1) << bit
		l = append(l, n-2, n-1, n, n+1, -n-2, -n-1, -n, -n+1)
	}
	return l
}

func TestP501IntOfEachLength(t *testing.T) {
	for n, want := range map[int64]string{
		0: "\x00", -1: "\x01", 1: "\x02", -2: "\x03", 63: "\x7e", -64: "\x7f",
		64: "\x80\x01", -65: "\x81\x01", 8191: "\xfe\x7f", -8192: "\xff\x7f",
		8192: "\x80\x80\x01", -8193: "\x81\x80\x01", 300: "\xd8\x04",
		1<<55 - 1: "\xfe\xff\xff\xff\xff\xff\xff\x7f", -1 << 55: "\xff\xff\xff\xff\xff\xff\xff\x7f",
		1 << 55: "\x80\x80\x80\x80\x80\x80\x80\x80\x01", 1<<62 - 1: "\xfe\xff\xff\xff\xff\xff\xff\xff\x7f",
		-1 << 62: "\xff\xff\xff\xff\xff\xff\xff\xff\x7f", 1 << 62: "\x80\x80\x80\x80\x80\x80\x80\x80\x80\x01",
		math.MaxInt64: "\xfe\xff\xff\xff\xff\xff\xff\xff\xff\x01", math.MinInt64: ff + "\x01",
	} {
		if got := ints(n); got != want {
			t.Errorf("P501: Int(%d): %x, not %x", n, got, want)
		}
		reads(t, want, n)
	}
}

// reads wants that b is the number n, and nothing behind it.
func reads(t *testing.T, b string, n int64) {
	t.Helper()
	d := of(b)
	if got := d.Int(); got != n || d.Left() != 0 || d.Err() != api.OK {
		t.Errorf("P501: %x: %d, not %d; left %d, %v", b, got, n, d.Left(), d.Err())
	}
}

// TestP501IntAgainstTheLibrary: the library's varints have the same form.
func TestP501IntAgainstTheLibrary(t *testing.T) {
	var all codec.Enc
	var want []byte
	for _, n := range numbers() {
		one := binary.AppendVarint(nil, n)
		if got := ints(n); got != string(one) {
			t.Errorf("P501: Int(%d): %x, not %x", n, got, one)
		}
		reads(t, string(one), n)
		all.Int(n)
		want = append(want, one...)
	}
	if !bytes.Equal(all.Bytes(), want) || ints(numbers()...) != string(want) {
		t.Error("P501: one behind the other")
	}
	d := codec.Of(want)
	for _, n := range numbers() {
		if got := d.Int(); got != n || d.Err() != api.OK {
			t.Fatalf("P501: %d, not %d, %v", got, n, d.Err())
		}
	}
	if d.Left() != 0 {
		t.Errorf("P501: left %d", d.Left())
	}
}

func TestP501NothingWritten(t *testing.T) {
	var e codec.Enc
	if len(e.Bytes()) != 0 {
		t.Errorf("P501: %x", e.Bytes())
	}
	e.Int()
	e.Text()
	e.Int([]int64{}...)
	e.Text([]string{}...)
	if len(e.Bytes()) != 0 {
		t.Errorf("P501: %x", e.Bytes())
	}
	e.Int(0)
	e.Int()
	e.Text()
	if string(e.Bytes()) != "\x00" {
		t.Errorf("P501: %x", e.Bytes())
	}
}

func TestP501Text(t *testing.T) {
	long := strings.Repeat("z", 64)
	longer := strings.Repeat("\x00\xff", 4096)
	for s, want := range map[string]string{
		"": "\x00", "a": "\x02a", "ab": "\x04ab", "\x00": "\x02\x00", "é": "\x04\xc3\xa9", "\xff\xfe": "\x04\xff\xfe",
		long[:63]: "\x7e" + long[:63], long: "\x80\x01" + long, longer: "\x80\x80\x01" + longer,
	} {
		if got := texts(s); got != want {
			t.Errorf("P501: Text(%.9q): %.20x", s, got)
		}
		d := of(want + "x")
		if got := d.Text(); got != s || d.Left() != 1 || d.Err() != api.OK {
			t.Errorf("P501: %.20x: %.9q; left %d, %v", want, got, d.Left(), d.Err())
		}
	}
	if got := texts("ab", "", "c"); got != "\x04ab\x00\x02c" {
		t.Errorf("P501: %x", got)
	}
}

func TestP501OneBehindTheOther(t *testing.T) {
	var e codec.Enc
	e.Int(-3, 64)
	e.Text("row", "")
	e.Int(math.MinInt64)
	e.Text("\x80")
	if want := "\x05\x80\x01\x06row\x00" + ff + "\x01\x02\x80"; string(e.Bytes()) != want {
		t.Fatalf("P501: %x", e.Bytes())
	}
	d := codec.Of(e.Bytes())
	got := fmt.Sprintf("%d %d; %d %d; ", d.Int(), d.Left(), d.Int(), d.Left())
	got += fmt.Sprintf("%q %d; %q %d; ", d.Text(), d.Left(), d.Text(), d.Left())
	got += fmt.Sprintf("%d %d; %q %d; %v", d.Int(), d.Left(), d.Text(), d.Left(), d.Err())
	if want := `-3 19; 64 17; "row" 13; "" 12; -9223372036854775808 2; "\x80" 0; ok`; got != want {
		t.Errorf("P501: %s, not %s", got, want)
	}
}

// fails wants that call has the error want at the front of b, and all is zero from there on.
func fails(t *testing.T, b string, want api.Errno, call func(d *codec.Dec) bool) {
	t.Helper()
	d := of(b)
	if !call(d) || d.Err() != want {
		t.Errorf("P501: %.20x: %v, not %v, or not zero", b, d.Err(), want)
	}
	for range 2 {
		if d.Left() != 0 || d.Int() != 0 || d.Text() != "" || d.Many(9) != 0 || d.Many(-1) != 0 || d.Left() != 0 || d.Err() != want {
			t.Errorf("P501: %.20x: not zero behind %v, or %v", b, want, d.Err())
		}
	}
}

func isInt(d *codec.Dec) bool { return d.Int() == 0 }

func isText(d *codec.Dec) bool { return d.Text() == "" }

func isMany(most int) func(d *codec.Dec) bool {
	return func(d *codec.Dec) bool { return d.Many(most) == 0 }
}

// TestP501NoInt: what is no Int is none wherever one is read.
func TestP501NoInt(t *testing.T) {
	form := []string{
		"\x80\x00", "\x81\x00", "\xff\x00", "\x80\x80\x00", "\xff\xff\x00", ff[:8] + "\x00", ff + "\x00", "\x80\x00abc",
		ff + "\x02", ff + "\x03", ff + "\x7f", ff + "\x80", ff + "\x81", ff + "\xff", ff + "\x80\x00", ff + "\x80\x01", ff + "\x81\x00",
		ff + ff, ff + ff + "\x01", strings.Repeat("\x80", 9) + "\x02", strings.Repeat("\x80", 10), strings.Repeat("\x80", 10) + "\x01", strings.Repeat("\x80", 5000) + "\x01",
	}
	short := []string{"", "\x80", "\x81", "\xff", "\x80\x80", ff[:8], ff, strings.Repeat("\x80", 9)}
	for _, call := range []func(d *codec.Dec) bool{isInt, isText, isMany(9), isMany(math.MaxInt)} {
		for _, b := range form {
			fails(t, b, api.ErrForm, call)
		}
		for _, b := range short {
			fails(t, b, api.ErrShort, call)
		}
	}
}

func TestP501NoText(t *testing.T) {
	for _, b := range []string{"\x01", "\x01a", "\x03abc", "\x7fabc", ff + "\x01", ints(math.MinInt64) + "abc", "\x81\x01abc"} {
		fails(t, b, api.ErrForm, isText)
	}
	for _, b := range []string{"\x02", "\x04a", "\x06ab", "\x08abc", "\x80\x01" + strings.Repeat("a", 63), ints(math.MaxInt64) + "abc", ints(math.MaxInt64-9) + "abcdefghijkl", ints(1<<31) + "a", ints(1<<32) + "a", ints(1<<32+1) + "a"} {
		fails(t, b, api.ErrShort, isText)
	}
}

func TestP501Many(t *testing.T) {
	for _, c := range []struct {
		b          string
		most, want int
	}{
		{"\x00", 0, 0}, {"\x00", 9, 0}, {"\x02", 1, 1}, {"\x12", 9, 9}, {"\x10", 9, 8}, {"\x80\x01", 64, 64}, {"\x7e", 64, 63},
		{"\x00", math.MaxInt, 0}, {ints(math.MaxInt64), math.MaxInt, math.MaxInt},
	} {
		d := of(c.b + "xyz")
		if got := d.Many(c.most); got != c.want || d.Err() != api.OK || d.Left() != 3 {
			t.Errorf("P501: %x: Many(%d): %d, %v", c.b, c.most, got, d.Err())
		}
	}
	for _, c := range []struct {
		b    string
		most int
	}{
		{"\x02", 0}, {"\x04", 1}, {"\x14", 9}, {"\x82\x01", 64}, {ints(math.MaxInt64), math.MaxInt - 1}, {ints(1<<32 + 3), 9},
		{"\x01", 0}, {"\x01", 9}, {"\x01", math.MaxInt}, {ints(math.MinInt64), math.MaxInt}, {ff + "\x01", 9},
		{"\x00", -1}, {"\x01", -1}, {"\x02", -1}, {"\x03", -1}, {"\x00", math.MinInt}, {ints(math.MinInt64), math.MinInt},
	} {
		fails(t, c.b+"xyz", api.ErrForm, isMany(c.most))
	}
	fails(t, "", api.ErrShort, isMany(-1))
}

// TestP501TheFirstErrorStays: later calls are not asked what is behind it.
func TestP501TheFirstErrorStays(t *testing.T) {
	for _, c := range []struct {
		b    string
		call func(d *codec.Dec) bool
		want api.Errno
	}{
		{"\x02\x80\x00\x02\x02a", isInt, api.ErrForm}, {"\x02\x03abc", isText, api.ErrForm}, {"\x02\x08abc", isText, api.ErrShort},
		{"\x02\x06\x02\x02", isMany(2), api.ErrForm}, {"\x02\xff", isInt, api.ErrShort}, {"\x02", isInt, api.ErrShort},
	} {
		fails(t, c.b, c.want, func(d *codec.Dec) bool { return d.Int() == 1 && d.Err() == api.OK && c.call(d) })
	}
}

// whole answers the number with which b begins by a second writing of the form,
// how many bytes it has, and the error.
func whole(b string) (*big.Int, int, api.Errno) {
	size := strings.IndexFunc(b, func(r rune) bool { return r < 128 }) + 1
	if size == 0 && len(b) < 10 {
		return nil, 0, api.ErrShort
	}
	if size == 0 || size > 10 || size > 1 && b[size-1] == 0 {
		return nil, 0, api.ErrForm
	}
	n := new(big.Int)
	for _, c := range slices.Backward([]byte(b[:size])) {
		n.Add(n.Lsh(n, 7), big.NewInt(int64(c%128)))
	}
	if n.BitLen() > 64 {
		return nil, 0, api.ErrForm
	}
	odd := n.Bit(0) == 1
	if n.Rsh(n, 1); odd {
		n.Not(n)
	}
	return n, size, api.OK
}

// TestP501IntOfAllShortBytes holds Int against the form, written down again.
func TestP501IntOfAllShortBytes(t *testing.T) {
	all := []string{""}
	for begin := 0; len(all[begin]) < 5; begin++ {
		for _, c := range []byte{0, 1, 2, 0x7f, 0x80, 0x81, 0xff} {
			all = append(all, all[begin]+string([]byte{c}))
		}
	}
	for _, s := range all {
		for _, b := range []string{s, ff[:7] + s, ff[:8] + s, ff + s, strings.Repeat("\x80", 8) + s} {
			n, size, e := whole(b)
			d := of(b)
			got := d.Int()
			if e != d.Err() || e == api.OK && (n.Int64() != got || d.Left() != len(b)-size || ints(got) != b[:size]) || e != api.OK && (got != 0 || d.Left() != 0) {
				t.Fatalf("P501: %x: %d, left %d, %v", b, got, d.Left(), d.Err())
			}
		}
	}
}

// TestP501EveryPair: each two bytes, as Int, as Text, as Many.
func TestP501EveryPair(t *testing.T) {
	for i := range 1 << 16 {
		b := string([]byte{byte(i >> 8), byte(i)})
		n, _, e := whole(b)
		if e != api.OK {
			fails(t, b, e, isText)
			fails(t, b, e, isMany(5))
			continue
		}
		d := of(b)
		if d.Int() != n.Int64() || d.Err() != api.OK {
			t.Fatalf("P501: %x", b)
		}
		if n.Sign() < 0 || n.Int64() > 5 {
			fails(t, b, api.ErrForm, isMany(5))
		} else if d := of(b); d.Many(5) != int(n.Int64()) || d.Err() != api.OK {
			t.Fatalf("P501: %x: Many", b)
		}
	}
}

func TestP501WhatIsCutIsShort(t *testing.T) {
	var e codec.Enc
	e.Int(1<<40, -1)
	e.Text("canton", "")
	e.Int(math.MinInt64)
	b := e.Bytes()
	for n := range b {
		d := codec.Of(b[:n])
		d.Int()
		d.Int()
		d.Text()
		d.Text()
		if d.Int() != 0 || d.Err() != api.ErrShort || d.Left() != 0 {
			t.Errorf("P501: %d: %v", n, d.Err())
		}
	}
}

func TestP501ADecOfNothing(t *testing.T) {
	for _, d := range []*codec.Dec{codec.Of(nil), codec.Of([]byte{}), {}} {
		if d.Left() != 0 || d.Err() != api.OK {
			t.Errorf("P501: %d, %v", d.Left(), d.Err())
		}
		if d.Int() != 0 || d.Err() != api.ErrShort {
			t.Errorf("P501: %v", d.Err())
		}
	}
}

func TestP2OfKeepsNothing(t *testing.T) {
	room := []byte("\x04abxyz")
	d := codec.Of(room[:3])
	copy(room, "\x06\x03\x03\x03\x03\x03")
	if got := d.Text(); got != "ab" || d.Left() != 0 {
		t.Errorf("P2: %q", got)
	}
	room = []byte("\x04ab\x02cxyz")
	d = codec.Of(room[:5])
	d.Text()
	d.Text()
	d.Int()
	if string(room) != "\x04ab\x02cxyz" {
		t.Errorf("P2: %x", room)
	}
}

func TestP2EncLeavesWhatIsHandedIn(t *testing.T) {
	n, s := []int64{5, -6, 7, 8}, []string{"a", "b", "c"}
	var e codec.Enc
	e.Int(n[:2]...)
	e.Text(s[:2]...)
	n[0], s[0] = 99, "z"
	if string(e.Bytes()) != "\x0a\x0b\x02a\x02b" || !slices.Equal(n, []int64{99, -6, 7, 8}) || !slices.Equal(s, []string{"z", "b", "c"}) {
		t.Errorf("P2: %x, %v, %q", e.Bytes(), n, s)
	}
}

func TestP2BytesAreNewMemory(t *testing.T) {
	var e codec.Enc
	for i := range 100 {
		was := strings.Repeat("\x06", i)
		a, b := e.Bytes(), e.Bytes()
		for j := range a[:cap(a)] {
			a[:cap(a)][j] = 0xEE
		}
		if string(b) != was || string(e.Bytes()) != was {
			t.Fatalf("P2: %d: %x", i, b)
		}
		e.Int(3)
		if room := b[:cap(b)]; string(b) != was || len(room) > i && room[i] == 6 {
			t.Fatalf("P2: %d: an answer behind a later call: %x", i, room)
		}
	}
}

// TestP7EachHasItsOwn: two of them have nothing in common.
func TestP7EachHasItsOwn(t *testing.T) {
	b := []byte("\x02\x04")
	c, d := codec.Of(b), codec.Of(b)
	if c.Int() != 1 || c.Int() != 2 || c.Int() != 0 || d.Left() != 2 || d.Err() != api.OK || d.Int() != 1 {
		t.Error("P7: Of")
	}
	var e, f codec.Enc
	e.Int(1)
	f.Int(2)
	if string(e.Bytes()) != "\x02" || string(f.Bytes()) != "\x04" {
		t.Error("P7: Enc")
	}
}

// TestP1AnyData: whatever it is given, each call ends, and answers the same again (P3).
func TestP1AnyData(t *testing.T) {
	x := uint32(1)
	next := func() uint32 {
		x = x*1664525 + 1013904223
		return x >> 16
	}
	for range 20000 {
		b := make([]byte, next()%40)
		for i := range b {
			b[i] = byte(next())
			if next()%2 == 0 {
				b[i] %= 16
			}
		}
		seed := x
		was := told(t, b, next)
		x = seed
		if again := told(t, b, next); again != was {
			t.Fatalf("P3: %x: %s, then %s", b, was, again)
		}
	}
}

// told is all that a Dec of b answers to a run of calls, in words.
func told(t *testing.T, b []byte, next func() uint32) string {
	t.Helper()
	d := codec.Of(b)
	var out strings.Builder
	for range 12 {
		was := d.Left()
		switch next() % 3 {
		case 0:
			fmt.Fprintf(&out, "%d ", d.Int())
		case 1:
			fmt.Fprintf(&out, "%q ", d.Text())
		case 2:
			fmt.Fprintf(&out, "%d ", d.Many(int(next()%40)-2))
		}
		fmt.Fprintf(&out, "%d %v; ", d.Left(), d.Err())
		if d.Left() > was || d.Left() == was && was > 0 {
			t.Fatalf("P501: %x: nothing was read: %s", b, out.String())
		}
	}
	return out.String()
}
