package rows

import (
	"cmp"
	"maps"
	"slices"
	"strings"

	"reprise/api"
)

// compareLabels compares labels by S, byte by byte, and then by N.
func compareLabels(a, b api.Label) int {
	return cmp.Or(strings.Compare(a.S, b.S), cmp.Compare(a.N, b.N))
}

// inOrder returns the labels of a list and more of them, in order, as new memory.
func inOrder(l []api.Label, more ...api.Label) []api.Label {
	all := joined(l, more...)
	slices.SortFunc(all, compareLabels)
	return all
}

// joined returns a copy of a list with more behind it, nil if there is nothing in it.
func joined[T any](l []T, more ...T) []T {
	if len(l)+len(more) == 0 {
		return nil
	}
	all := make([]T, len(l), len(l)+len(more))
	copy(all, l)
	return append(all, more...)
}

// multiset tells how often each label occurs that occurs at all. It is not changed once it is made.
type multiset map[api.Label]int

// multisetOf returns the multiset of labels.
func multisetOf(l ...api.Label) multiset {
	if len(l) == 0 {
		return nil
	}
	m := multiset{}
	for _, x := range l {
		m[x]++
	}
	return m
}

// with returns the labels of both multisets together.
func (m multiset) with(more multiset) multiset {
	switch {
	case len(more) == 0:
		return m
	case len(m) == 0:
		return more
	}
	sum := maps.Clone(m)
	for x, n := range more {
		sum[x] += n
	}
	return sum
}

// without returns the labels of a multiset, counted down by those of another one.
func (m multiset) without(less multiset) multiset {
	left := maps.Clone(m)
	for x, n := range less {
		if left[x] > n {
			left[x] -= n
		} else {
			delete(left, x)
		}
	}
	return left
}

// size returns how many labels there are.
func (m multiset) size() (sum int) {
	for _, n := range m {
		sum += n
	}
	return sum
}

// list returns the labels in order, as new memory.
func (m multiset) list() []api.Label {
	var l []api.Label
	for x, n := range m {
		l = append(l, slices.Repeat([]api.Label{x}, n)...)
	}
	return inOrder(l)
}
