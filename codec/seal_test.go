package codec_test

import (
	"bytes"
	"hash/crc32"
	"strings"
	"testing"

	"canton/api"
	"canton/codec"
)

// samples answers bytes of many lengths.
func samples() [][]byte {
	l := [][]byte{nil, {}, {0}, {0xff}, {0, 0, 0, 0}, {0xff, 0xff, 0xff, 0xff}, []byte("123456789"), []byte(strings.Repeat("canton", 999))}
	for c := range 256 {
		l = append(l, []byte{byte(c)}, bytes.Repeat([]byte{byte(c), byte(c * 7)}, c))
	}
	return l
}

func TestP501SealOfWhatIsKnown(t *testing.T) {
	for s, want := range map[string]string{
		"":                 "\x00\x00\x00\x00",
		"a":                "a\x43\xbe\xb7\xe8",
		"123456789":        "123456789\x26\x39\xf4\xcb",
		"\x00":             "\x00\x8d\xef\x02\xd2",
		"\xff\xff\xff\xff": "\xff\xff\xff\xff\xff\xff\xff\xff",
	} {
		if got := codec.Seal([]byte(s)); string(got) != want {
			t.Errorf("P501: Seal(%q): %x, not %x", s, got, want)
		}
	}
}

func TestP501SealAgainstTheLibrary(t *testing.T) {
	for _, b := range samples() {
		s := crc32.ChecksumIEEE(b)
		want := append(bytes.Clone(b), byte(s), byte(s>>8), byte(s>>16), byte(s>>24))
		got := codec.Seal(b)
		if !bytes.Equal(got, want) {
			t.Errorf("P501: Seal(%.9x): %x", b, got)
		}
		if x, e := codec.Open(want); !bytes.Equal(x, b) || e != api.OK {
			t.Errorf("P501: Open(%.9x): %x, %v", want, x, e)
		}
		if x, e := codec.Open(codec.Seal(got)); !bytes.Equal(x, got) || e != api.OK {
			t.Errorf("P501: sealed twice: %x, %v", x, e)
		}
	}
}

func opens(t *testing.T, b []byte, want api.Errno) {
	t.Helper()
	if x, e := codec.Open(b); len(x) != 0 || e != want {
		t.Errorf("P501: Open(%.20x): %x, %v, not %v", b, x, e, want)
	}
}

func TestP501OpenShort(t *testing.T) {
	for n := range 4 {
		opens(t, make([]byte, n), api.ErrShort)
		opens(t, bytes.Repeat([]byte{0xff}, n), api.ErrShort)
		opens(t, codec.Seal(nil)[:n], api.ErrShort)
		opens(t, make([]byte, n, 64), api.ErrShort)
	}
	opens(t, nil, api.ErrShort)
}

// TestP501OpenBent: what has one bit, or one byte, changed is never opened.
func TestP501OpenBent(t *testing.T) {
	for _, s := range []string{"", "a", "canton", "123456789", strings.Repeat("\x00", 70)} {
		b := codec.Seal([]byte(s))
		for i := range b {
			for c := 1; c < 256; c++ {
				bent := bytes.Clone(b)
				bent[i] ^= byte(c)
				opens(t, bent, api.ErrSum)
			}
		}
	}
}

func TestP501OpenCutOrTurned(t *testing.T) {
	b := codec.Seal([]byte("123456789"))
	for n := 4; n < len(b); n++ {
		opens(t, b[:n], api.ErrSum)
		opens(t, b[len(b)-n:], api.ErrSum)
	}
	opens(t, append(bytes.Clone(b), 0), api.ErrSum)
	opens(t, append([]byte{0}, b...), api.ErrSum)
	// The sum's bytes the highest first.
	opens(t, []byte("123456789\xcb\xf4\x39\x26"), api.ErrSum)
	opens(t, []byte("\x26\x39\xf4\xcb123456789"), api.ErrSum)
	opens(t, []byte("\x01\x00\x00\x00"), api.ErrSum)
	opens(t, []byte("\xff\xff\xff\xff"), api.ErrSum)
}

func TestP2SealIsNewMemory(t *testing.T) {
	room := []byte("canton......")
	got := codec.Seal(room[:6])
	if string(room) != "canton......" {
		t.Errorf("P2: %q", room)
	}
	was := string(got)
	copy(room, "CANTON")
	if string(got) != was {
		t.Errorf("P2: %q", got)
	}
	for i := range got[:cap(got)] {
		got[:cap(got)][i] = 'x'
	}
	if string(room) != "CANTON......" {
		t.Errorf("P2: %q", room)
	}
}

func TestP2OpenIsNewMemory(t *testing.T) {
	for _, s := range []string{"", "a", "canton"} {
		room := append(codec.Seal([]byte(s)), "...."...)
		b := room[:len(s)+4]
		was := string(room)
		x, e := codec.Open(b)
		y, _ := codec.Open(b)
		if e != api.OK || string(room) != was {
			t.Errorf("P2: %q, %v", room, e)
		}
		for i := range x[:cap(x)] {
			x[:cap(x)][i] = 'x'
		}
		if string(room) != was || string(y) != s {
			t.Errorf("P2: %q, %q", room, y)
		}
		clear(room)
		if string(y) != s {
			t.Errorf("P2: %q", y)
		}
	}
}
