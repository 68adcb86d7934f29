package header

import (
	"math"
	"strings"
	"testing"

	"landfall/api"
)

// TestNameExamples are the chapter's.
func TestNameExamples(t *testing.T) {
	for _, r := range []struct {
		s    string
		want bool
	}{{"a-1", true}, {"A", false}, {"", false}, {strings.Repeat("a", 33), false}, {strings.Repeat("a", 32), true}} {
		if Name(r.s) != r.want {
			t.Errorf("%q: %v", r.s, !r.want)
		}
	}
}

func TestNameEdges(t *testing.T) {
	for _, s := range edgeNames() {
		if Name(s) != wantName(s) {
			t.Errorf("%q: %v", s, Name(s))
		}
	}
}

// TestNameBytes tries each byte, alone and at each place of names of several lengths.
func TestNameBytes(t *testing.T) {
	for c := range 256 {
		is := c >= 'a' && c <= 'z' || c >= '0' && c <= '9' || c == '-'
		for _, n := range []int{1, 2, 31, 32} {
			for at := range n {
				b := []byte(strings.Repeat("q", n))
				b[at] = byte(c)
				if Name(string(b)) != is {
					t.Errorf("%q: %v", b, !is)
				}
			}
		}
	}
}

// TestNameRunes tries runes of more than one byte, none of which a name may have: those whose lowest byte is a letter's too.
func TestNameRunes(t *testing.T) {
	for r := rune(128); r <= 0x10ffff; r += 1 + r/5000 {
		if Name(string(r)) || Name("a"+string(r)) || Name(string(r)+"a") {
			t.Errorf("%q", r)
		}
	}
}

// TestNameLengths tries names of each length.
func TestNameLengths(t *testing.T) {
	for n := range 1000 {
		for _, c := range []string{"a", "9", "-"} {
			if s := strings.Repeat(c, n); Name(s) != (n >= 1 && n <= 32) {
				t.Errorf("%d times %s: %v", n, c, Name(s))
			}
		}
	}
}

// TestCheckExamples are the chapter's.
func TestCheckExamples(t *testing.T) {
	for _, r := range []struct {
		h    api.Header
		want api.Errno
	}{
		{one(), api.OK},
		{api.Header{Chain: "a", Height: 0, Time: 2}, api.ErrRange},
		{api.Header{Chain: "A", Height: 0, Time: 2}, api.ErrForm},
		{api.Header{Chain: "a", Height: 1, Time: -1}, api.ErrRange},
		{api.Header{}, api.ErrForm},
	} {
		if e := Check(r.h); e != r.want {
			t.Error(r, e)
		}
	}
}

// TestCheckRanges are the edges of heights and of times.
func TestCheckRanges(t *testing.T) {
	for n, want := range map[int]api.Errno{math.MinInt: api.ErrRange, -1: api.ErrRange, 0: api.ErrRange, 1: api.OK, highest: api.OK, highest + 1: api.ErrRange, math.MaxInt: api.ErrRange} {
		h := one()
		if h.Height = n; Check(h) != want {
			t.Error("height", n, Check(h))
		}
	}
	for n, want := range map[int]api.Errno{math.MinInt: api.ErrRange, -1: api.ErrRange, 0: api.OK, latest: api.OK, latest + 1: api.ErrRange, math.MaxInt: api.ErrRange} {
		h := one()
		if h.Time = n; Check(h) != want {
			t.Error("time", n, Check(h))
		}
	}
}

// TestCheckEdges tries each name with each height and time, and any hashes.
func TestCheckEdges(t *testing.T) {
	for _, h := range edges() {
		if e := Check(h); e != wantCheck(h) {
			t.Errorf("%v: %v, not %v", h, e, wantCheck(h))
		}
		bare := api.Header{Chain: h.Chain, Height: h.Height, Time: h.Time}
		if Check(bare) != Check(h) {
			t.Errorf("%v: its hashes count", h)
		}
	}
}
