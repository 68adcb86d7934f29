package header

import (
	"math"
	"math/big"
	"slices"
	"strings"

	"landfall/api"
)

const (
	highest = 1 << 30 // the greatest height
	latest  = 1 << 40 // the greatest time
	letters = "abcdefghijklmnopqrstuvwxyz0123456789-"
)

// one is the header that the chapter's examples have.
func one() api.Header {
	return api.Header{Chain: "a", Height: 1, Time: 2}
}

// full is a header that has everything, and no two bytes of its hashes alike.
func full() api.Header {
	h := api.Header{Chain: "sea-1", Height: 513, Time: 66051}
	for i := range 32 {
		h.Prev[i], h.Vals[i], h.Next[i], h.App[i] = byte(i+1), byte(i+33), byte(i+65), byte(i+97)
	}
	return h
}

// wantName tells whether a text is a name, byte by byte.
func wantName(s string) bool {
	for i := range len(s) {
		if strings.IndexByte(letters, s[i]) < 0 {
			return false
		}
	}
	return len(s) > 0 && len(s) < 33
}

// wantCheck tells what Check is to tell.
func wantCheck(h api.Header) api.Errno {
	switch {
	case !wantName(h.Chain):
		return api.ErrForm
	case h.Height < 1 || h.Height > highest || h.Time < 0 || h.Time > latest:
		return api.ErrRange
	}
	return api.OK
}

// edgeNames are texts at the edges of what a name is, and beyond.
func edgeNames() []string {
	l := []string{"", "a", "z", "0", "9", "-", "a-1", "--", letters[:32], letters[5:], strings.Repeat("a", 31), strings.Repeat("a", 32), strings.Repeat("-", 32)}
	l = append(l, strings.Repeat("a", 33), strings.Repeat("z", 300), letters, "`", "{", "/", ":", ",", ".", "A", "Z", "_", " ", "\x00", "\x7f", "a\x00", "\x00a", "a b", "a-B", "a\n")
	// Runes of several bytes, one of them with a byte of a letter as its last one, and bytes that are no rune.
	l = append(l, "é", "aé", "\u0161", "\u2010", "\uff41", "\U0001f600", "\ufffd", "\xff", "\x80", "a\xff", "\xe1", "\xe1a", "a\xc3", "\xed\xa0\x80", strings.Repeat("é", 16), strings.Repeat("a", 31)+"é", strings.Repeat("a", 31)+"\xff", strings.Repeat("a", 32)+"\xff")
	return l
}

func edgeHeights() []int {
	return []int{math.MinInt, -highest, -1, 0, 1, 2, 255, 256, highest - 1, highest, highest + 1, latest, math.MaxInt}
}

func edgeTimes() []int {
	return []int{math.MinInt, -latest, -1, 0, 1, 255, 256, highest + 1, latest - 1, latest, latest + 1, math.MaxInt}
}

// edges are headers of all these, valid or not.
func edges() []api.Header {
	var l []api.Header
	for _, name := range edgeNames() {
		for _, height := range edgeHeights() {
			for _, time := range edgeTimes() {
				h := full()
				h.Chain, h.Height, h.Time = name, height, time
				l = append(l, h)
			}
		}
	}
	return l
}

// valid are those that are valid.
func valid() []api.Header {
	return slices.DeleteFunc(append(edges(), one(), full()), func(h api.Header) bool { return wantCheck(h) != api.OK })
}

// element is a part of a header's bytes: where it begins, and its bytes.
type element struct {
	at    int
	bytes []byte
}

// elements tells the seven of any header, be it valid or not, if its numbers are not less than 0.
func elements(h api.Header) []element {
	at := 0
	var l []element
	for _, b := range [][]byte{append(numBytes(len(h.Chain)), h.Chain...), numBytes(h.Height), numBytes(h.Time), h.Prev[:], h.Vals[:], h.Next[:], h.App[:]} {
		l = append(l, element{at, b})
		at += len(b)
	}
	return l
}

// bytesOf tells a header's bytes.
func bytesOf(h api.Header) []byte {
	var b []byte
	for _, e := range elements(h) {
		b = append(b, e.bytes...)
	}
	return b
}

// numBytes tells the bytes of a number by a great one, which has no zeros ahead.
func numBytes(n int) []byte {
	b := big.NewInt(int64(n)).Bytes()
	return append([]byte{byte(len(b))}, b...)
}
