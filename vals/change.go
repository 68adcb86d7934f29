package vals

import (
	"iter"
	"slices"

	"landfall/api"
)

// removed is the power in a change by which its key leaves the set.
const removed = 0

// Change tells the set behind changes.
func Change(l, changes []api.Validator) ([]api.Validator, api.Errno) {
	if e := Check(l); e != api.OK {
		return nil, e
	}
	if e := checkChanges(l, changes); e != api.OK {
		return nil, e
	}
	var changed []api.Validator
	for v := range merged(l, changes) {
		if v.Power == removed {
			continue
		}
		if len(changed) == api.MaxVals {
			return nil, api.ErrFull
		}
		changed = append(changed, v)
	}
	if len(changed) == 0 {
		return nil, api.ErrShort
	}
	return changed, api.OK
}

// checkChanges tells the first error of changes to a set, one change after the other.
func checkChanges(l, changes []api.Validator) api.Errno {
	var a ascent
	for _, c := range changes {
		if e := a.next(c, removed); e != api.OK {
			return e
		}
		if c.Power == removed && !has(l, c.Key) {
			return api.ErrUnknown
		}
	}
	return api.OK
}

// has tells whether a set has a key.
func has(l []api.Validator, k api.Key) bool {
	_, is := slices.BinarySearchFunc(l, k, func(v api.Validator, k api.Key) int { return compare(v.Key, k) })
	return is
}

// merged goes through the validators of a set and of its changes, the lesser key first; of both with one key it yields the change alone.
func merged(l, changes []api.Validator) iter.Seq[api.Validator] {
	return func(yield func(api.Validator) bool) {
		old, fresh := l, changes
		for len(old)+len(fresh) > 0 {
			var lesser api.Validator
			order := compareFirst(old, fresh)
			if order <= 0 {
				lesser, old = old[0], old[1:]
			}
			if order >= 0 {
				lesser, fresh = fresh[0], fresh[1:]
			}
			if !yield(lesser) {
				return
			}
		}
	}
}

// compareFirst compares the first keys of two lists, one of which may be empty: what it would have is greater than any.
func compareFirst(a, b []api.Validator) int {
	switch {
	case len(b) == 0:
		return -1
	case len(a) == 0:
		return 1
	default:
		return compare(a[0].Key, b[0].Key)
	}
}
