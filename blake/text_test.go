package blake

import (
	"strings"
	"testing"

	"landfall/api"
)

// hashes are some of them: the least and the greatest one, with each byte in the first place or the last one, and those of bytes.
func hashes() []api.Hash {
	l := []api.Hash{{}}
	for b := range 256 {
		l = append(l, api.Hash{byte(b)}, api.Hash{31: byte(b)}, api.Hash{15: byte(b), 16: byte(255 - b)})
	}
	for n := range 40 {
		l = append(l, Sum(pattern(n)))
	}
	var most api.Hash
	for i := range most {
		most[i] = 255
	}
	return append(l, most)
}

func TestText(t *testing.T) {
	for _, r := range []struct {
		h    api.Hash
		want string
	}{
		{api.Hash{}, strings.Repeat("0", 64)},
		{api.Hash{1}, "01" + strings.Repeat("0", 62)},
		{api.Hash{0x10}, "1" + strings.Repeat("0", 63)},
		{api.Hash{31: 0xaf}, strings.Repeat("0", 62) + "af"},
		{api.Hash{0x01, 0x23, 0x45, 0x67, 0x89, 0xab, 0xcd, 0xef}, "0123456789abcdef" + strings.Repeat("0", 48)},
	} {
		if got := Text(r.h); got != r.want {
			t.Errorf("%v: %s", r.h, got)
		}
	}
	for _, h := range hashes() {
		if got := Text(h); got != textOf(h) {
			t.Errorf("%v: %s", h, got)
		}
	}
}

// TestReadBack holds P7: a text is read as it was.
func TestReadBack(t *testing.T) {
	for _, h := range hashes() {
		if got, e := Read(Text(h)); got != h || e != api.OK {
			t.Errorf("%s: %v %d", Text(h), got, e)
		}
	}
}

// TestReadDigits puts each byte at some places of a text: the digits alone are read.
func TestReadDigits(t *testing.T) {
	good := Text(Sum(nil))
	for _, at := range []int{0, 1, 31, 32, 62, 63} {
		for b := range 256 {
			s := good[:at] + string([]byte{byte(b)}) + good[at+1:]
			h, e := Read(s)
			if strings.IndexByte("0123456789abcdef", byte(b)) < 0 {
				if h != (api.Hash{}) || e != api.ErrForm {
					t.Errorf("%q: %v %d", s, h, e)
				}
				continue
			}
			if textOf(h) != s || e != api.OK {
				t.Errorf("%q: %v %d", s, h, e)
			}
		}
	}
}

func TestReadWrongTexts(t *testing.T) {
	good := Text(Sum([]byte("abc")))
	for _, s := range []string{
		"",
		"0",
		strings.Repeat("0", 32),
		strings.Repeat("0", 62),
		strings.Repeat("0", 63),
		strings.Repeat("0", 65),
		strings.Repeat("0", 66),
		strings.Repeat("0", 128),
		strings.Repeat("A", 64),
		strings.Repeat("g", 64),
		strings.Repeat(" ", 64),
		strings.ToUpper(good),
		good[1:],
		good + "0",
		good + " ",
		" " + good,
		" " + good[1:],
		good + "\n",
		good + "\x00",
		"0x" + good,
		"0x" + good[2:],
		"-" + good[1:],
		"+" + good[1:],
		"_" + good[1:],
		good[:63] + "F",
		good[:62] + "é",         // 64 bytes, 63 characters
		good + "é",              // 64 characters and one
		strings.Repeat("é", 32), // 64 bytes
		strings.Repeat("é", 64), // 64 characters
		good[:61] + "\uff11",    // a digit, but none of these
		good[:63] + "\xff",      // no character at all
		strings.Repeat("\xff", 64),
		strings.Repeat("\u0130", 32), // the low byte of its number is a digit
		strings.Repeat("\U00010030", 16),
	} {
		if h, e := Read(s); h != (api.Hash{}) || e != api.ErrForm {
			t.Errorf("%q: %v %d", s, h, e)
		}
	}
}

func TestCompareExamples(t *testing.T) {
	for _, r := range []struct {
		a, b api.Hash
		want int
	}{
		{api.Hash{1}, api.Hash{0, 9}, 1},
		{api.Hash{}, api.Hash{31: 1}, -1},
		{api.Hash{}, api.Hash{}, 0},
		{api.Hash{5, 6}, api.Hash{5, 6}, 0},
		{api.Hash{5, 6}, api.Hash{5, 7}, -1},
		{api.Hash{0x7f}, api.Hash{0x80}, -1}, // bytes have no sign
		{api.Hash{0xff}, api.Hash{0}, 1},
		{api.Hash{31: 0xff}, api.Hash{30: 1}, -1},
		{api.Hash{1, 0, 9}, api.Hash{1, 1, 0}, -1},
	} {
		if got := Compare(r.a, r.b); got != r.want {
			t.Errorf("%v: %d", r, got)
		}
		if got := Compare(r.b, r.a); got != -r.want {
			t.Errorf("%v, turned: %d", r, got)
		}
	}
}

// TestTextsHaveTheOrderOfHashes holds P3.3.
func TestTextsHaveTheOrderOfHashes(t *testing.T) {
	all := hashes()
	var texts []string
	for _, h := range all {
		texts = append(texts, textOf(h))
	}
	for i, a := range all {
		for j, b := range all {
			want := strings.Compare(texts[i], texts[j])
			if got := Compare(a, b); got != want {
				t.Errorf("%s, %s: %d, not %d", Text(a), Text(b), got, want)
			}
		}
	}
}
