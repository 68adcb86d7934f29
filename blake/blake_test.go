package blake

import (
	"bytes"
	"math"
	"slices"
	"strings"
	"testing"

	"landfall/api"
)

// pattern is n bytes that differ from those of another n.
func pattern(n int) []byte {
	b := make([]byte, n)
	for i := range b {
		b[i] = byte(i*i + 7*i + n)
	}
	return b
}

// edges are how many bytes fill no block, nearly fill some, fill them, or begin the next one.
func edges() []int {
	return []int{0, 1, 2, 3, 4, 31, 32, 33, 55, 56, 57, 63, 64, 65, 66, 119, 120, 127, 128, 129, 191, 192, 193, 255, 256, 257, 1000, 5000}
}

func TestSumExamples(t *testing.T) {
	for _, r := range []struct {
		b    string
		want string
	}{
		{"", "69217a3079908094e11121d042354a7c1f55b6482ca1a51e1b250dfd1ed0eef9"},
		{"abc", "508c5e8c327c14e2e1a72ba34eeb452f37458b209ed63a294d999b4c86675982"},
		{"a", "4a0d129873403037c2cd9b9048203687f6233fb6738956e0349bd4320fec3e90"},
		{"The quick brown fox jumps over the lazy dog", "606beeec743ccbeff6cbcdf5d5302aa855c256c29b88c8ed331ea1a6bf3c8812"},
		{"\x00", "e34d74dbaf4ff4c6abd871cc220451d2ea2648846c7757fbaac82fe51ad64bea"},
		{strings.Repeat("\x00", 63), "d962856f3fcfaac80a84722012c38da68cce6b924a397d5a3db009babefdee61"},
		{strings.Repeat("\x00", 64), "ae09db7cd54f42b490ef09b6bc541af688e4959bb8c53f359a6f56e38ab454a3"},
		{strings.Repeat("\x00", 65), "857328bf990b00922782d3e81c6054c25d3375d386c7424abe3e01d79041046c"},
		{strings.Repeat("\x00", 128), "4e420520b981ce7bdbf4ce2c4dbadb9450079b7deb9737b5232957d323f801cb"},
		{strings.Repeat("\xff", 64), "ee92d9d765aac654bc062ea8e24456bb1a73c86643bdac7ec4ff2efd81721063"},
		{strings.Repeat("\xff", 128), "20dfe3ad1ecfd9d3e9e9f0762349556b1f4e79701719cfb4933e42fdc6542df0"},
	} {
		if got := Text(Sum([]byte(r.b))); got != r.want {
			t.Errorf("%q: %s, not %s", r.b, got, r.want)
		}
	}
	if got := Text(Sum(nil)); got != "69217a3079908094e11121d042354a7c1f55b6482ca1a51e1b250dfd1ed0eef9" {
		t.Error("nil:", got)
	}
}

// TestSumIsKnown holds hashes that another program computed, of bytes by the pattern.
func TestSumIsKnown(t *testing.T) {
	for _, r := range []struct {
		n    int
		want string
	}{
		{1, "fc87f4f1d721942d282aa61989c069b290d1447d20d4b811430f47ea0edf9991"},
		{55, "bba90fc945ede170b9e3ad8065a127ee319ef9e468c400f7b2011464d9d9128a"},
		{56, "6174cbca212262d5538508ffdcd5dceb792bdc6e5deb774eb9cea40796f3ad82"},
		{63, "7f3179b557c95d3a2e1578ed5db9a89cc9310d9842d7b821d88f67ab87147660"},
		{64, "c49ef97601b1ea704100ac5afd3a1b56d5262fba0edcb969937be84e19d558e2"},
		{65, "a3f985b03825e94f526772e0990dba7f2672166efaf8731cb1d3368c40d18c4a"},
		{127, "f3c5c57cc1985f1f4f21f8422e19ee03fa8b034bc7bcd3c9092da70657b768e8"},
		{128, "f95d281c1f403c58232e810cdf25f6a0a67a4a3ab7ce25b56ff063c848c2ace2"},
		{129, "f6cf0d598feaefe0ddec5e1738190d6c282987c317bd7720d5cc534af0ec0200"},
		{255, "7e6097c33b9afd7c0a97454a0fdbe6e1cf005de8c4168afbe876ce8e643a8fc4"},
		{256, "35b918d7309eb4bdd273c261a9d7925221f09f077031a25b474ed0fdd6f38ca2"},
		{257, "95f3015ba472b3261e2041a68661b9ccf99ebcde7fd9e9d25cacd2285c0020ae"},
		{1000, "92555696cf0e86be0ccad6e017efec07167d317fbcfd53ab390c88705d9cc72b"},
		{1024, "5511e006a6223eeb474ec7e9391b0dbe18ca1c2e9d6e3949f88c4b593159cd0e"},
		{4096, "df1474ba3dd9e6fc15eed5b652cbdc69b9fff19d7bc0a4accbca60da01d42f64"},
		{5000, "162e8cd61e00b69417907181743dd8aff872608ee52573f3ef8d96540cbd195e"},
		{65537, "b0606737abc4856b29d575c2ae3f32be975dabde7751ec8d31d50b6d5edda0a7"},
	} {
		if got := Text(Sum(pattern(r.n))); got != r.want {
			t.Errorf("%d: %s, not %s", r.n, got, r.want)
		}
	}
	var all []byte
	for n := range 1101 {
		h := Sum(pattern(n))
		all = append(all, h[:]...)
	}
	if got := Text(Sum(all)); got != "06e8352ccb001fa274b509c093d44b825a8ea3b036c641ea171d7e059d0bcce6" {
		t.Error("hashes of 0 to 1100 bytes:", got)
	}
}

func TestSumIsOfTheSteps(t *testing.T) {
	for n := range 300 {
		if b := pattern(n); Sum(b) != oracle(b) {
			t.Error(n)
		}
	}
	for _, n := range edges() {
		if b := pattern(n); Sum(b) != oracle(b) {
			t.Error(n)
		}
	}
}

// TestBegin holds both words of the number of bytes, above 2^32 too, and the mark of the last block, against the chapter's words.
func TestBegin(t *testing.T) {
	for _, n := range []int{0, 1, 64, mod - 1, mod, mod + 1, 5*mod + 7, 0x123456789abcdef0, math.MaxInt} {
		for _, mark := range []uint32{0, mod - 1} {
			s := New()
			s.count(n)
			want := [16]uint32{
				0x6a09e667 ^ 0x01010020, 0xbb67ae85, 0x3c6ef372, 0xa54ff53a, 0x510e527f, 0x9b05688c, 0x1f83d9ab, 0x5be0cd19,
				0x6a09e667, 0xbb67ae85, 0x3c6ef372, 0xa54ff53a, 0x510e527f ^ uint32(n%mod), 0x9b05688c ^ uint32(n/mod), 0x1f83d9ab ^ mark, 0x5be0cd19,
			}
			if got := s.begin(mark); got != want {
				t.Errorf("%d bytes, mark %x: %x", n, mark, got)
			}
		}
	}
}

// write writes bytes in pieces of some lengths, in turn.
func write(t *testing.T, s *State, b []byte, lengths ...int) {
	t.Helper()
	for i := 0; len(b) > 0; i++ {
		n := min(lengths[i%len(lengths)], len(b))
		if e := s.Write(b[:n]); e != api.OK {
			t.Fatal(e)
		}
		b = b[n:]
	}
}

func TestPieces(t *testing.T) {
	for _, n := range edges() {
		all := pattern(n)
		for _, lengths := range [][]int{{1}, {2}, {3}, {63}, {64}, {65}, {128}, {129}, {1, 0, 64}, {0, 7, 0, 57}, {64, 1}, {63, 1, 1}, {65, 0, 63}, {200, 56}, {5000}} {
			s := New()
			write(t, s, all, lengths...)
			h, e := s.Sum()
			if h != oracle(all) || e != api.OK {
				t.Errorf("%d by %v: %s %d", n, lengths, Text(h), e)
			}
			if s.Len() != n {
				t.Errorf("%d by %v: %d bytes", n, lengths, s.Len())
			}
		}
	}
}

// TestAnyTwoPieces divides bytes at each place.
func TestAnyTwoPieces(t *testing.T) {
	all := pattern(200)
	for at := range len(all) + 1 {
		s := New()
		s.Write(all[:at])
		s.Write(all[at:])
		if h, e := s.Sum(); h != oracle(all) || e != api.OK || s.Len() != len(all) {
			t.Errorf("at %d: %s %d %d", at, Text(h), e, s.Len())
		}
	}
}

// TestSumBetween asks for the hash, twice, behind each byte.
func TestSumBetween(t *testing.T) {
	all := pattern(260)
	s := New()
	for n := range all {
		for range 2 {
			if h, e := s.Sum(); h != oracle(all[:n]) || e != api.OK || s.Len() != n {
				t.Fatalf("behind %d: %s %d %d", n, Text(h), e, s.Len())
			}
		}
		s.Write(all[n : n+1])
	}
}

func TestNew(t *testing.T) {
	s := New()
	if h, e := s.Sum(); h != Sum(nil) || e != api.OK || s.Len() != 0 {
		t.Error(h, e, s.Len())
	}
	for _, none := range [][]byte{nil, {}} {
		if e := s.Write(none); e != api.OK {
			t.Error(e)
		}
	}
	if h, e := s.Sum(); h != Sum(nil) || e != api.OK || s.Len() != 0 {
		t.Error("with nothing written:", h, e, s.Len())
	}
	other := New()
	other.Write([]byte("x"))
	if s.Len() != 0 || other.Len() != 1 {
		t.Error("two states are one")
	}
}

// TestExample is the chapter's.
func TestExample(t *testing.T) {
	s := New()
	if e := s.Write([]byte("a")); e != api.OK {
		t.Error(e)
	}
	if e := s.Write([]byte("bc")); e != api.OK {
		t.Error(e)
	}
	if h, e := s.Sum(); s.Len() != 3 || h != Sum([]byte("abc")) || e != api.OK {
		t.Error(s.Len(), h, e)
	}
}

func TestInvalidStates(t *testing.T) {
	made := New()
	made.Write([]byte("abc"))
	copied := *made
	var zero State
	for name, s := range map[string]*State{"nil": nil, "zero": &zero, "new": new(State), "copied": &copied} {
		for _, b := range [][]byte{nil, []byte("x"), pattern(200)} {
			if e := s.Write(b); e != api.ErrNil {
				t.Errorf("%s: Write tells %d", name, e)
			}
		}
		if n := s.Len(); n != 0 {
			t.Errorf("%s: Len tells %d", name, n)
		}
		if h, e := s.Sum(); h != (api.Hash{}) || e != api.ErrNil {
			t.Errorf("%s: Sum tells %v %d", name, h, e)
		}
	}
	if zero != (State{}) {
		t.Error("a state that is none was changed")
	}
	if h, e := made.Sum(); h != Sum([]byte("abc")) || e != api.OK || made.Len() != 3 {
		t.Error("the copy changed what New made")
	}
}

// TestArgumentsStay holds that no argument is changed, kept, or read behind its end.
func TestArgumentsStay(t *testing.T) {
	for _, n := range []int{1, 63, 64, 65, 130} {
		room := append(pattern(n), bytes.Repeat([]byte{9}, 200)...)
		before := slices.Clone(room)
		s := New()
		s.Write(room[:n])
		if Sum(room[:n]) != oracle(pattern(n)) || !bytes.Equal(room, before) {
			t.Errorf("%d: bytes were changed, or read behind their end", n)
		}
		clear(room)
		if h, _ := s.Sum(); h != oracle(pattern(n)) {
			t.Errorf("%d: bytes were kept", n)
		}
	}
}

func TestCounter(t *testing.T) {
	for _, r := range []struct {
		n, filled int
		low, high uint32
	}{
		{0, 0, 0, 0},
		{1, 1, 1, 0},
		{63, 63, 63, 0},
		{64, 64, 64, 0},
		{65, 1, 65, 0},
		{128, 64, 128, 0},
		{mod - 1, 63, mod - 1, 0},
		{mod, 64, 0, 1},
		{mod + 1, 1, 1, 1},
		{math.MaxInt, 63, mod - 1, mod/2 - 1},
	} {
		var c counter
		c.count(r.n)
		low, high := c.halves()
		if c.total() != r.n || c.filled() != r.filled || low != r.low || high != r.high {
			t.Errorf("%v: %d %d %d %d", r, c.total(), c.filled(), low, high)
		}
	}
}
