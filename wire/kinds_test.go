package wire

import (
	"math"
	"math/big"
	"strings"

	"landfall/api"
	"landfall/pace"
)

// kind is one of the things that are written and read: how, and what its bytes are, worked out in another way.
type kind struct {
	name  string
	write func(w *Writer, x any) api.Errno
	read  func(r *Reader) any
	zero  any
	form  func(x any) []byte
}

const huge = math.MaxInt

// kinds are all of them; texts and bytes are read however long they are.
func kinds() []kind {
	return []kind{
		{"number", func(w *Writer, x any) api.Errno { return w.Num(x.(int)) }, func(r *Reader) any { return r.Num() }, 0, func(x any) []byte { return numBytes(x.(int)) }},
		{"text", func(w *Writer, x any) api.Errno { return w.Text(x.(string)) }, func(r *Reader) any { return r.Text(huge) }, "", func(x any) []byte { return withLen(x.(string)) }},
		{"bytes", func(w *Writer, x any) api.Errno { return w.Bytes([]byte(x.(string))) }, func(r *Reader) any { return string(r.Bytes(huge)) }, "", func(x any) []byte { return withLen(x.(string)) }},
		{"hash", func(w *Writer, x any) api.Errno { return w.Hash(x.(api.Hash)) }, func(r *Reader) any { return r.Hash() }, api.Hash{}, func(x any) []byte { h := x.(api.Hash); return h[:] }},
		{"key", func(w *Writer, x any) api.Errno { return w.Key(x.(api.Key)) }, func(r *Reader) any { return r.Key() }, api.Key{}, func(x any) []byte { k := x.(api.Key); return k[:] }},
		{"word", func(w *Writer, x any) api.Errno { return w.Word(x.(uint64)) }, func(r *Reader) any { return r.Word() }, uint64(0), func(x any) []byte { return wordBytes(x.(uint64)) }},
		// A pace is held by its form here: so a NaN is itself, and zeros have signs.
		{"pace", func(w *Writer, x any) api.Errno { return w.Pace(math.Float64frombits(x.(uint64))) }, func(r *Reader) any { return pace.Bits(r.Pace()) }, uint64(0), func(x any) []byte { return wordBytes(x.(uint64)) }},
		{"bool", func(w *Writer, x any) api.Errno { return w.Bool(x.(bool)) }, func(r *Reader) any { return r.Bool() }, false, func(x any) []byte { return boolBytes(x.(bool)) }},
	}
}

// values are some of each kind, by its name, the edges among them.
func values() map[string][]any {
	v := map[string][]any{
		"hash": {api.Hash{}, api.Hash{1, 2, 31: 255}, ones()},
		"key":  {api.Key{}, api.Key{1, 2, 3, 4}, api.Key{255, 255, 255, 255}, api.Key{0, 0, 0, 1}, api.Key{9}},
		"word": {uint64(0), uint64(1), uint64(255), uint64(256), uint64(1) << 63, uint64(math.MaxInt64), uint64(math.MaxUint64), uint64(0x0102030405060708)},
		"bool": {false, true},
	}
	for _, n := range numbers() {
		v["number"] = append(v["number"], n)
	}
	for _, n := range []int{0, 1, 2, 31, 255, 256, 257, 65535, 65536} {
		v["text"] = append(v["text"], letters(n))
	}
	v["text"] = append(v["text"], "\x00", "\xff\xfe", "é\u20ac\U0001f600", "\x01\x05")
	v["bytes"] = v["text"]
	for _, x := range []float64{0, math.Copysign(0, -1), 1, -1, 0.1, math.Pi, math.Inf(1), math.Inf(-1), math.MaxFloat64, -math.MaxFloat64, math.SmallestNonzeroFloat64, math.NaN()} {
		v["pace"] = append(v["pace"], pace.Bits(x))
	}
	return v
}

// numbers are those at which the bytes become more, beside some others.
func numbers() []int {
	l := []int{0, 1, 2, 127, 128, 0x0102030405060708, 1 << 62, math.MaxInt64 - 1, math.MaxInt64}
	for digits := 1; digits < 8; digits++ {
		l = append(l, 1<<(8*digits)-1, 1<<(8*digits), 1<<(8*digits)+1)
	}
	return l
}

func ones() api.Hash {
	var h api.Hash
	for i := range h {
		h[i] = 255
	}
	return h
}

// letters is a text of n bytes that differs from those of another n.
func letters(n int) string {
	var b strings.Builder
	for i := range n {
		b.WriteByte(byte(i*i + 7*i + n))
	}
	return b.String()
}

// numBytes tells the bytes of a number by a great one, which has no zeros ahead.
func numBytes(n int) []byte {
	b := big.NewInt(int64(n)).Bytes()
	return append([]byte{byte(len(b))}, b...)
}

func withLen(s string) []byte {
	return append(numBytes(len(s)), s...)
}

func wordBytes(n uint64) []byte {
	return new(big.Int).SetUint64(n).FillBytes(make([]byte, 8))
}

func boolBytes(is bool) []byte {
	return map[bool][]byte{false: {0}, true: {1}}[is]
}

// chance makes numbers without a rule, the same ones in each run.
type chance uint64

func (c *chance) below(n int) int {
	*c ^= *c << 13
	*c ^= *c >> 7
	*c ^= *c << 17
	return int(uint64(*c) >> 1 % uint64(n))
}

func some() *chance {
	c := chance(88172645463325252)
	return &c
}
