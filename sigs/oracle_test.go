package sigs

import (
	"bytes"
	"encoding/binary"
	"maps"
	"math"
	"math/big"
	"slices"
	"strings"
	"testing"

	"landfall/api"
)

const (
	mostSigs = 4096               // how many signatures a table has at most
	formLen  = 44                 // how many bytes a signature has
	poor     = 0xdeadbeefdeadbeef // the signature that stands where nobody is to look
)

// sig makes a signature of the last byte of a key, the last byte of a hash, and a number.
func sig(key, hash byte, n uint64) api.Sig {
	return api.Sig{Key: api.Key{3: key}, Hash: api.Hash{31: hash}, Sig: n}
}

// form tells the bytes of a signature; they have the same order, byte by byte, as signatures.
func form(s api.Sig) string {
	b := append(slices.Clone(s.Key[:]), s.Hash[:]...)
	return string(binary.BigEndian.AppendUint64(b, s.Sig))
}

// numBytes tells the bytes of a number by a great one, which has no zeros ahead.
func numBytes(n int) []byte {
	b := big.NewInt(int64(n)).Bytes()
	return append([]byte{byte(len(b))}, b...)
}

// bytesOf tells the bytes of signatures, in the order that they have here.
func bytesOf(l []api.Sig) []byte {
	b := numBytes(len(l))
	for _, s := range l {
		b = append(b, form(s)...)
	}
	return b
}

// ordered tells the signatures of a list in ascending order.
func ordered(l []api.Sig) []api.Sig {
	l = slices.Clone(l)
	slices.SortFunc(l, func(a, b api.Sig) int { return strings.Compare(form(a), form(b)) })
	return l
}

// rises tells whether each signature is greater than the one before it.
func rises(l []api.Sig) bool {
	for i := 1; i < len(l); i++ {
		if form(l[i-1]) >= form(l[i]) {
			return false
		}
	}
	return true
}

// whoOf tells the keys in a list that have a signature over a hash, as the numbers of base 256 that they are.
func whoOf(l []api.Sig, h api.Hash) []api.Key {
	counts := map[uint32]int{}
	for _, s := range l {
		if s.Hash == h {
			counts[binary.BigEndian.Uint32(s.Key[:])]++
		}
	}
	var all []api.Key
	for _, n := range slices.Sorted(maps.Keys(counts)) {
		all = append(all, api.Key(binary.BigEndian.AppendUint32(nil, n)))
	}
	return all
}

// table makes a table of signatures, in the order that they have here.
func table(t *testing.T, most int, l []api.Sig) *Table {
	t.Helper()
	x, e := New(most)
	if x == nil || e != api.OK {
		t.Fatal(most, e)
	}
	for _, s := range l {
		if e := x.Add(s); e != api.OK {
			t.Fatal(s, e)
		}
	}
	return x
}

// wantTable makes sure that a table has just these signatures, by each of its calls.
func wantTable(t *testing.T, x *Table, l []api.Sig) {
	t.Helper()
	l = ordered(l)
	if got := x.List(); !slices.Equal(got, l) {
		t.Errorf("%v, not %v", got, l)
	}
	if x.Len() != len(l) {
		t.Errorf("%d, not %d", x.Len(), len(l))
	}
	if b, e := x.Encode(); !bytes.Equal(b, bytesOf(l)) || e != api.OK {
		t.Errorf("% x, %v, not % x", b, e, bytesOf(l))
	}
	for _, s := range l {
		if !x.Has(s) {
			t.Error("missing:", s)
		}
	}
	// Of a long list only some are asked for, as each question looks at all.
	for i := 0; i < len(l); i += 1 + len(l)/100 {
		if got, want := x.Who(l[i].Hash), whoOf(l, l[i].Hash); !slices.Equal(got, want) {
			t.Errorf("%v of %v, not %v", got, l[i].Hash, want)
		}
	}
}

// wantFault makes sure that bytes are no table, and why; and that they are as they were.
func wantFault(t *testing.T, b []byte, e api.Errno, at int) {
	t.Helper()
	was := slices.Clone(b)
	if x, f := Decode(b); x != nil || f != (api.Fault{Err: e, At: at}) {
		t.Errorf("% x: %v, %v, not %v at %d", b, x, f, e, at)
	}
	if !bytes.Equal(b, was) {
		t.Errorf("% x was changed to % x", was, b)
	}
}

// neighbours are signatures each of which differs from the first one in one place alone: in one byte of its key or of its hash, or in its number.
func neighbours() []api.Sig {
	base := api.Sig{Sig: 1 << 40}
	for i := range base.Key {
		base.Key[i] = 100
	}
	for i := range base.Hash {
		base.Hash[i] = 100
	}
	all := []api.Sig{base}
	for _, x := range []byte{0, 1, 99, 101, 127, 128, 200, 255} {
		for i := range base.Key {
			s := base
			s.Key[i] = x
			all = append(all, s)
		}
		for i := range base.Hash {
			s := base
			s.Hash[i] = x
			all = append(all, s)
		}
	}
	for _, n := range []uint64{0, 1, 255, 256, 1<<40 - 1, 1<<40 + 1, 1<<63 - 1, 1 << 63, 1<<63 + 1, math.MaxUint64} {
		s := base
		s.Sig = n
		all = append(all, s)
	}
	return all
}

// many are n signatures that differ in all kinds of ways.
func many(n int) []api.Sig {
	var all []api.Sig
	for i := range n {
		s := api.Sig{Sig: uint64(i%7) << 61}
		binary.BigEndian.PutUint32(s.Key[:], uint32(i/7%40)*0x07654321)
		binary.BigEndian.PutUint32(s.Hash[i%2*28:], uint32(i/280)*0x1f2e3d4c)
		all = append(all, s)
	}
	return all
}

// orders are all orders of a list.
func orders(l []api.Sig) [][]api.Sig {
	if len(l) == 0 {
		return [][]api.Sig{nil}
	}
	var all [][]api.Sig
	for i := range l {
		rest := slices.Delete(slices.Clone(l), i, i+1)
		for _, o := range orders(rest) {
			all = append(all, append([]api.Sig{l[i]}, o...))
		}
	}
	return all
}

// invalids are tables that neither New nor Decode returned.
func invalids(t *testing.T) []*Table {
	copied := *table(t, 5, []api.Sig{sig(1, 2, 3)})
	a, b := table(t, 5, []api.Sig{sig(1, 2, 3)}), table(t, 5, nil)
	*b = *a
	read, _ := Decode(bytesOf([]api.Sig{sig(1, 2, 3)}))
	again := *read
	return []*Table{nil, {}, new(Table), &copied, b, &again}
}

// chance makes numbers without a rule, the same ones in each run.
type chance uint64

func (c *chance) below(n int) int {
	*c ^= *c << 13
	*c ^= *c >> 7
	*c ^= *c << 17
	return int(uint64(*c) >> 1 % uint64(n))
}

func some() *chance {
	c := chance(88172645463325252)
	return &c
}
