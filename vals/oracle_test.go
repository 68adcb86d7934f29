package vals

import (
	"math/big"
	"slices"
	"testing"

	"landfall/api"
)

const (
	most = 1 << 62       // the greatest power
	last = 1<<32 - 1     // the greatest key, as one number
	poor = -987654321987 // what stands where nobody is to look
)

// of makes validators: keys, each as one number, and powers in turns.
func of(l ...int) []api.Validator {
	var out []api.Validator
	for i := 0; i < len(l); i += 2 {
		out = append(out, api.Validator{Key: keyOf(l[i]), Power: l[i+1]})
	}
	return out
}

func keyOf(n int) api.Key {
	return api.Key{byte(n >> 24), byte(n >> 16), byte(n >> 8), byte(n)}
}

func numberOf(k api.Key) int {
	return int(k[0])<<24 | int(k[1])<<16 | int(k[2])<<8 | int(k[3])
}

// some makes n validators from a key on, a step apart, of power 1 and more.
func some(n, from, step int) []api.Validator {
	var l []api.Validator
	for i := range n {
		l = append(l, of(from+i*step, 1+i)...)
	}
	return l
}

// lists are all lists of at most n validators with these keys and powers.
func lists(n int, keys, powers []int) [][]api.Validator {
	all := [][]api.Validator{nil}
	for i := 0; i < len(all); i++ {
		if len(all[i]) == n {
			break
		}
		for _, k := range keys {
			for _, p := range powers {
				all = append(all, append(slices.Clone(all[i]), of(k, p)...))
			}
		}
	}
	return all
}

// wantCheck tells what Check is to tell, by keys as numbers.
func wantCheck(l []api.Validator) api.Errno {
	switch {
	case len(l) < 1:
		return api.ErrShort
	case len(l) > 64:
		return api.ErrLong
	}
	previous := -1
	for _, v := range l {
		if numberOf(v.Key) <= previous {
			return api.ErrOrder
		}
		previous = numberOf(v.Key)
		if v.Power < 1 || v.Power > most {
			return api.ErrRange
		}
	}
	return api.OK
}

// wantChange tells what Change is to tell, by a map from keys as numbers to powers.
func wantChange(l, changes []api.Validator) ([]api.Validator, api.Errno) {
	if e := wantCheck(l); e != api.OK {
		return nil, e
	}
	powers := map[int]int{}
	for _, v := range l {
		powers[numberOf(v.Key)] = v.Power
	}
	previous := -1
	for _, c := range changes {
		k := numberOf(c.Key)
		_, known := powers[k]
		switch {
		case k <= previous:
			return nil, api.ErrOrder
		case c.Power < 0 || c.Power > most:
			return nil, api.ErrRange
		case c.Power == 0 && !known:
			return nil, api.ErrUnknown
		}
		previous = k
		if powers[k] = c.Power; c.Power == 0 {
			delete(powers, k)
		}
	}
	switch {
	case len(powers) == 0:
		return nil, api.ErrShort
	case len(powers) > 64:
		return nil, api.ErrFull
	}
	var out []api.Validator
	for k, p := range powers {
		out = append(out, of(k, p)...)
	}
	slices.SortFunc(out, func(a, b api.Validator) int { return numberOf(a.Key) - numberOf(b.Key) })
	return out, api.OK
}

// bytesOf tells the bytes of any list, be it a set or not, if its powers are not less than 0.
func bytesOf(l []api.Validator) []byte {
	b := numBytes(len(l))
	for _, v := range l {
		b = append(b, v.Key[:]...)
		b = append(b, numBytes(v.Power)...)
	}
	return b
}

// numBytes tells the bytes of a number by a great one, which has no zeros ahead.
func numBytes(n int) []byte {
	b := big.NewInt(int64(n)).Bytes()
	return append([]byte{byte(len(b))}, b...)
}

// roomy copies a list into a longer one, so that its spare capacity has validators.
func roomy(l []api.Validator) []api.Validator {
	all := append(slices.Clone(l), of(last, poor, 0, poor, 1, poor)...)
	return all[:len(l)]
}

// wantSame makes sure that neither a list, nor what is behind it, was changed.
func wantSame(t *testing.T, is, was []api.Validator) {
	t.Helper()
	if !slices.Equal(is[:cap(is)], was[:cap(was)]) {
		t.Errorf("%v was changed to %v", was[:cap(was)], is[:cap(is)])
	}
}

// spoil writes over a list and over its spare capacity.
func spoil(l []api.Validator) {
	for i := range l[:cap(l)] {
		l[:cap(l)][i] = of(77, poor)[0]
	}
}
