package tests

import (
	"slices"
	"testing"

	"loop.example/treadle/impl"
)

func ghost(of, dir int) impl.Event {
	return impl.Event{Op: 2, Of: of, Dir: dir}
}

func dies(of int) impl.Event {
	return impl.Event{Op: 3, Of: of}
}

func lives(of int) impl.Event {
	return impl.Event{Op: 4, Of: of}
}

func reset(of int) impl.Event {
	return impl.Event{Op: 5, Of: of}
}

// wrongLayouts are ones for which nothing of counting has an answer.
func wrongLayouts() map[string]impl.Layout {
	twisted := row(2)
	twisted.Counters[2] = impl.Counter{From: 1, To: 1}
	beyond := row(2)
	beyond.Counters[2] = impl.Counter{From: 2, To: -1}
	below := row(2)
	below.Counters[0] = impl.Counter{From: -2, To: 0}
	return map[string]impl.Layout{
		"zero value":        {},
		"no sections":       {Sections: 0, Counters: row(2).Counters[:0]},
		"sections below 0":  {Sections: -1},
		"sections too many": row(61),
		"counters too many": many(121),
		"From is To":        twisted,
		"From too great":    beyond,
		"From too small":    below,
	}
}

// eventPlain is the document's table, for a right layout.
func eventPlain(l impl.Layout, e impl.Event) bool {
	dirs, things := []int{1, -1}, len(l.Counters)
	switch e.Op {
	case 1, 2:
	case 3, 4:
		dirs = []int{0}
	case 5:
		dirs, things = []int{0}, l.Sections
	default:
		return false
	}
	return slices.Contains(dirs, e.Dir) && e.Of >= 0 && e.Of < things
}

func TestCountingConstantsAreTheDocuments(t *testing.T) {
	sameList(t, "ops", []int{impl.OPass, impl.OGhost, impl.ODead, impl.OAlive, impl.OReset}, []int{1, 2, 3, 4, 5})
	sameList(t, "told", []int{impl.Free, impl.Occupied, impl.Sweeping, impl.Failed}, []int{0, 1, 2, 3})
	sameList(t, "limits", []int{impl.MaxEvents}, []int{2000})
}

func TestEventOkByHand(t *testing.T) {
	l := row(2) // two sections, three counters
	for _, c := range []struct {
		e    impl.Event
		want bool
	}{
		{pass(0, 1), true}, {pass(0, -1), true}, {pass(2, 1), true}, {pass(2, -1), true},
		{pass(-1, 1), false}, {pass(3, 1), false}, {pass(0, 0), false}, {pass(0, 2), false}, {pass(0, -2), false},
		{ghost(0, 1), true}, {ghost(0, -1), true}, {ghost(2, 1), true}, {ghost(2, -1), true},
		{ghost(-1, 1), false}, {ghost(3, 1), false}, {ghost(0, 0), false}, {ghost(0, 2), false}, {ghost(0, -2), false},
		{dies(0), true}, {dies(2), true}, {dies(-1), false}, {dies(3), false},
		{impl.Event{Op: 3, Of: 0, Dir: 1}, false}, {impl.Event{Op: 3, Of: 0, Dir: -1}, false}, {impl.Event{Op: 3, Of: 0, Dir: 2}, false},
		{lives(0), true}, {lives(2), true}, {lives(-1), false}, {lives(3), false},
		{impl.Event{Op: 4, Of: 0, Dir: 1}, false}, {impl.Event{Op: 4, Of: 0, Dir: -1}, false}, {impl.Event{Op: 4, Of: 0, Dir: 2}, false},
		{reset(0), true}, {reset(1), true}, {reset(-1), false}, {reset(2), false},
		{impl.Event{Op: 5, Of: 0, Dir: 1}, false}, {impl.Event{Op: 5, Of: 0, Dir: -1}, false}, {impl.Event{Op: 5, Of: 0, Dir: 2}, false},
		{impl.Event{}, false}, {impl.Event{Op: 0, Of: 0, Dir: 1}, false}, {impl.Event{Op: -1, Of: 0, Dir: 1}, false},
		{impl.Event{Op: 6, Of: 0, Dir: 0}, false}, {impl.Event{Op: 6, Of: 0, Dir: 1}, false}, {impl.Event{Op: 6, Of: 0, Dir: -1}, false},
	} {
		if got := impl.EventOk(l, c.e); got != c.want {
			t.Errorf("%v: %v", c.e, got)
		}
	}
}

// TestEventOkEach has layouts with more sections than counters and with fewer, so that neither is asked for in the other's place.
func TestEventOkEach(t *testing.T) {
	for name, l := range map[string]impl.Layout{
		"a row":                  row(3),
		"few counters":           one(6, 0, 5),
		"no counters":            {Sections: 2},
		"many counters":          many(7),
		"most of sections":       row(60),
		"most of counters":       many(120),
		"counters to the inside": {Sections: 2, Counters: []impl.Counter{{From: 0, To: 1}, {From: 1, To: 0}}},
	} {
		ofs := append([]int{-1, 0, l.Sections - 1, l.Sections, len(l.Counters) - 1, len(l.Counters)}, wild...)
		for op := -1; op <= 7; op++ {
			for _, of := range ofs {
				for dir := -2; dir <= 2; dir++ {
					e := impl.Event{Op: op, Of: of, Dir: dir}
					if got := impl.EventOk(l, e); got != eventPlain(l, e) {
						t.Errorf("%s, %v: %v", name, e, got)
					}
				}
			}
		}
	}
}

func TestEventOkWrongLayouts(t *testing.T) {
	for name, l := range wrongLayouts() {
		for _, e := range []impl.Event{pass(0, 1), ghost(0, -1), dies(0), lives(0), reset(0)} {
			if impl.EventOk(l, e) {
				t.Errorf("%s: %v", name, e)
			}
		}
	}
}

func TestEventOkWildNumbers(t *testing.T) {
	l := row(2)
	for _, op := range wild {
		for _, of := range wild {
			for _, dir := range wild {
				e := impl.Event{Op: op, Of: of, Dir: dir}
				if got := impl.EventOk(l, e); got != eventPlain(l, e) {
					t.Errorf("%v: %v", e, got)
				}
				if impl.EventOk(one(of, op, dir), e) && impl.LayoutOk(one(of, op, dir)) != 0 {
					t.Errorf("%v in a layout that is not right", e)
				}
			}
		}
	}
}
