package catalog

import (
	"cmp"
	"iter"
	"slices"
)

// find is where the thing of a key stands in a list by rising keys, or belongs, and whether it is there.
func find[T any, K cmp.Ordered](l []T, keyOf func(x T) K, key K) (int, bool) {
	return slices.BinarySearchFunc(l, key, func(x T, key K) int { return cmp.Compare(keyOf(x), key) })
}

// get is a copy of the thing of a key, and whether there is one.
func get[T any, K cmp.Ordered](l []T, keyOf func(x T) K, key K, copied func(x T) T) (T, bool) {
	place, there := find(l, keyOf, key)
	if !there {
		var none T
		return none, false
	}
	return copied(l[place]), true
}

// put is the list with x, in the place of the one of its key.
func put[T any, K cmp.Ordered](l []T, keyOf func(x T) K, x T) []T {
	place, there := find(l, keyOf, keyOf(x))
	if there {
		l[place] = x
		return l
	}
	return slices.Insert(l, place, x)
}

// rise: is each one's key above that of the one ahead?
func rise[T any, K cmp.Ordered](l []T, keyOf func(x T) K) bool {
	for i := 1; i < len(l); i++ {
		if keyOf(l[i]) <= keyOf(l[i-1]) {
			return false
		}
	}
	return true
}

// each goes over copies of a list's things; the list is asked for when it is ranged over, so that it is as it is then.
func each[T any](list func() []T, copied func(x T) T) iter.Seq[T] {
	return func(yield func(T) bool) {
		for _, x := range list() {
			if !yield(copied(x)) {
				return
			}
		}
	}
}
