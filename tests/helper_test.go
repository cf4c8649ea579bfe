package tests

import (
	"math"
	"slices"
	"testing"

	"loop.example/treadle/impl"
)

// numbers is a source of numbers that are the same in each run.
type numbers uint64

func (n *numbers) below(limit int) int {
	*n = *n*6364136223846793005 + 1442695040888963407
	return int((uint64(*n) >> 33) % uint64(limit))
}

// wild are numbers at which sums and differences go astray.
var wild = []int{math.MinInt, math.MinInt + 1, math.MinInt32, -1000001, -2, -1, 0, 1, 2, 1000000, 1000001, math.MaxInt32, math.MaxInt - 1, math.MaxInt}

// row is a row of sections with a counter ahead of each, and one behind the last.
func row(sections int) impl.Layout {
	l := impl.Layout{Sections: sections}
	for i := 0; i < sections; i++ {
		l.Counters = append(l.Counters, impl.Counter{From: i - 1, To: i})
	}
	l.Counters = append(l.Counters, impl.Counter{From: sections - 1, To: -1})
	return l
}

// many is a layout with one section and so many counters to outside.
func many(counters int) impl.Layout {
	l := impl.Layout{Sections: 1, Counters: make([]impl.Counter, counters)}
	for i := range l.Counters {
		l.Counters[i] = impl.Counter{From: -1, To: 0}
	}
	return l
}

func one(sections, from, to int) impl.Layout {
	return impl.Layout{Sections: sections, Counters: []impl.Counter{{From: from, To: to}}}
}

// roomy is a copy with room behind its end, filled, so that writing there shows.
func roomy[T any](list []T, filler T) (long, short []T) {
	long = append(slices.Clone(list), filler, filler, filler)
	return long, long[:len(list)]
}

func sameList[T comparable](t *testing.T, what string, got, want []T) {
	t.Helper()
	if !slices.Equal(got, want) {
		t.Errorf("%s: got %v, want %v", what, got, want)
	}
}
