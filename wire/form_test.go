package wire_test

import (
	"encoding/binary"
	"hash/crc32"

	"canton/api"
	"canton/row"
	"canton/stamp"
	"canton/value"
)

// The form, written down a second time, over the library's varints and sum.

func formInt(l ...int64) string {
	var b []byte
	for _, n := range l {
		b = binary.AppendVarint(b, n)
	}
	return string(b)
}

func formText(s string) string { return formInt(int64(len(s))) + s }

func formValue(v value.Value) string {
	b := formInt(int64(v.Kind))
	switch v.Kind {
	case 1:
		b += formInt(v.I)
	case 2:
		b += formText(v.S)
	case 3:
		b += formInt(int64(len(v.L))) + formInt(v.L...)
	}
	return b
}

func formStamp(s stamp.Stamp) string { return formInt(s.Tick, s.Inc, s.Seq) + formText(s.Origin) }

func formRow(r row.Row) string {
	b := formText(r.Key) + formStamp(r.Stamp) + formInt(int64(len(r.Attrs)))
	for _, a := range r.Attrs {
		b += formText(a.Name) + formValue(a.Value)
	}
	return b
}

func formRows(l ...row.Row) string {
	b := formInt(int64(len(l)))
	for _, r := range l {
		b += formRow(r)
	}
	return b
}

// sealed answers s with its sum behind it.
func sealed(s string) string {
	return string(binary.LittleEndian.AppendUint32([]byte(s), crc32.ChecksumIEEE([]byte(s))))
}

// A reader reads the form; where it is none it panics with the error.
type reader struct{ left string }

func (r *reader) int() int64 {
	n, size := binary.Varint([]byte(r.left))
	if size == 0 && len(r.left) < binary.MaxVarintLen64 {
		panic(api.ErrShort)
	}
	if size <= 0 || len(formInt(n)) != size {
		panic(api.ErrForm)
	}
	r.left = r.left[size:]
	return n
}

func (r *reader) many(most int64) int64 {
	n := r.int()
	if n < 0 || n > most {
		panic(api.ErrForm)
	}
	return n
}

func (r *reader) text() string {
	n := r.many(api.Most)
	if n > int64(len(r.left)) {
		panic(api.ErrShort)
	}
	s := r.left[:n]
	r.left = r.left[n:]
	return s
}

func (r *reader) value() value.Value {
	v := value.Value{Kind: int(r.int())}
	switch v.Kind {
	case 1:
		v.I = r.int()
	case 2:
		v.S = r.text()
	case 3:
		for range r.many(16) {
			v.L = append(v.L, r.int())
		}
	}
	return v
}

func (r *reader) stamp() stamp.Stamp {
	var s stamp.Stamp
	for _, n := range []*int64{&s.Tick, &s.Inc, &s.Seq} {
		*n = r.int()
	}
	s.Origin = r.text()
	return s
}

func (r *reader) row() row.Row {
	x := row.Row{Key: r.text()}
	x.Stamp = r.stamp()
	for range r.many(32) {
		name := r.text()
		x.Attrs = append(x.Attrs, row.Attr{Name: name, Value: r.value()})
	}
	return x
}

func (r *reader) rows() []row.Row {
	var l []row.Row
	for range r.many(64) {
		l = append(l, r.row())
	}
	return l
}

// reading answers what take reads of s, how many bytes are left of it, and the error.
func reading[T any](s string, take func(*reader) T) (x T, left int, e api.Errno) {
	defer func() {
		if p := recover(); p != nil {
			e = p.(api.Errno)
		}
	}()
	r := &reader{s}
	x = take(r)
	return x, len(r.left), api.OK
}

// opening answers what take and check make of the sealed b: the first error in
// the order in which P701 names them.
func opening[T any](b string, take func(*reader) T, check func(T) api.Errno) (T, api.Errno) {
	var none T
	n := len(b) - 4
	if n < 0 {
		return none, api.ErrShort
	}
	if sealed(b[:n]) != b {
		return none, api.ErrSum
	}
	x, left, e := reading(b[:n], take)
	if e == api.OK && left > 0 {
		e = api.ErrForm
	}
	if e == api.OK {
		e = check(x)
	}
	if e != api.OK {
		return none, e
	}
	return x, api.OK
}

func checkRows(l []row.Row) api.Errno {
	for _, r := range l {
		if e := row.Check(r); e != api.OK {
			return e
		}
	}
	return api.OK
}
