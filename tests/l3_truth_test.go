package tests

import (
	"fmt"
	"math"
	"slices"
	"testing"

	"loop.example/treadle/impl"
)

// truthPlain is the document's sentence on what is so, for a right layout: each row is counted from the first event on.
func truthPlain(l impl.Layout, events []impl.Event) [][]int {
	var rows [][]int
	for end := range events {
		row := make([]int, l.Sections)
		for _, e := range events[:end+1] {
			if e.Op != 1 || !eventPlain(l, e) {
				continue
			}
			c := l.Counters[e.Of]
			if c.From != -1 {
				row[c.From] -= e.Dir
			}
			if c.To != -1 {
				row[c.To] += e.Dir
			}
		}
		rows = append(rows, row)
	}
	return rows
}

func sameRows(t *testing.T, what string, got, want [][]int) {
	t.Helper()
	if len(got) != len(want) {
		t.Errorf("%s: %d rows, want %d", what, len(got), len(want))
		return
	}
	for i := range got {
		sameList(t, fmt.Sprint(what, ", event ", i), got[i], want[i])
	}
}

func TestTruthOfATrain(t *testing.T) {
	sameRows(t, "two axles", impl.Truth(row(2), passes(0, 0, 1, 1, 2, 2)), [][]int{{1, 0}, {2, 0}, {1, 1}, {0, 2}, {0, 1}, {0, 0}})
	sameRows(t, "one that goes back", impl.Truth(row(2), []impl.Event{pass(2, -1), pass(1, -1), pass(1, 1), pass(1, -1), pass(0, -1)}),
		[][]int{{0, 1}, {1, 0}, {0, 1}, {1, 0}, {0, 0}})
	sameRows(t, "from outside and back", impl.Truth(row(1), []impl.Event{pass(0, 1), pass(0, -1), pass(1, -1), pass(1, 1)}), [][]int{{1}, {0}, {1}, {0}})
}

func TestTruthOfDeadCounters(t *testing.T) {
	events := []impl.Event{dies(0), pass(0, 1), pass(0, 1), dies(1), pass(1, 1), dies(2), pass(2, 1), lives(0), pass(0, -1), lives(2), pass(2, -1)}
	sameRows(t, "nobody counts, yet they go", impl.Truth(row(2), events),
		[][]int{{0, 0}, {1, 0}, {2, 0}, {2, 0}, {1, 1}, {1, 1}, {1, 0}, {1, 0}, {0, 0}, {0, 0}, {0, 1}})
	sameList(t, "codes", codesOf(impl.Run(row(2), events)), []int{0, 2, 2, 0, 2, 0, 2, 0, 0, 0, 0})
}

func TestTruthOfGhosts(t *testing.T) {
	events := []impl.Event{ghost(0, 1), ghost(1, 1), pass(0, 1), ghost(1, -1), ghost(2, 1), pass(1, 1), ghost(1, 1), ghost(0, -1)}
	sameRows(t, "nobody comes", impl.Truth(row(2), events), [][]int{{0, 0}, {0, 0}, {1, 0}, {1, 0}, {1, 0}, {0, 1}, {0, 1}, {0, 1}})
}

func TestTruthOfResets(t *testing.T) {
	events := []impl.Event{reset(0), pass(0, 1), reset(0), reset(1), pass(1, 1), reset(0), reset(1)}
	sameRows(t, "a word moves nobody", impl.Truth(row(2), events), [][]int{{0, 0}, {1, 0}, {1, 0}, {1, 0}, {0, 1}, {0, 1}, {0, 1}})
}

func TestTruthOfEventsThatAreNone(t *testing.T) {
	events := []impl.Event{{}, pass(0, 1), pass(0, 0), pass(0, 2), pass(0, -2), pass(3, 1), pass(-1, 1), {Op: 6, Dir: 1}, {Op: -1, Dir: 1}, {Op: 0, Dir: 1}, reset(2), pass(1, 1), pass(math.MaxInt, 1)}
	want := [][]int{{0, 0}}
	for len(want) < 11 {
		want = append(want, []int{1, 0})
	}
	sameRows(t, "a row for each", impl.Truth(row(2), events), append(want, []int{0, 1}, []int{0, 1}))
	sameRows(t, "none but such", impl.Truth(row(3), make([]impl.Event, 2)), [][]int{{0, 0, 0}, {0, 0, 0}})
	sameRows(t, "no counters", impl.Truth(impl.Layout{Sections: 1}, passes(0, 0)), [][]int{{0}, {0}})
}

func TestTruthBelowNobody(t *testing.T) {
	sameRows(t, "out of an empty one", impl.Truth(row(2), []impl.Event{pass(1, 1), pass(1, 1), pass(0, -1), pass(2, 1), pass(0, 1), pass(0, 1), pass(0, 1)}),
		[][]int{{-1, 1}, {-2, 2}, {-3, 2}, {-3, 1}, {-2, 1}, {-1, 1}, {0, 1}})
}

func TestTruthOfNothing(t *testing.T) {
	answersNothing(t, impl.Truth)
}

func TestTruthMostEvents(t *testing.T) {
	full := many(120)
	full.Sections = 60
	for _, l := range []impl.Layout{row(2), row(60), full} {
		for _, e := range []impl.Event{pass(0, 1), {}, dies(0)} {
			events := slices.Repeat([]impl.Event{e}, 2000)
			got := impl.Truth(l, events)
			if len(got) != 2000 {
				t.Fatalf("2000 of %v: %d rows", e, len(got))
			}
			want := make([]int, l.Sections)
			if e.Op == 1 {
				want[0] = 2000
			}
			sameList(t, fmt.Sprint("the last row of 2000 of ", e), got[1999], want)
			if got := impl.Truth(l, append(events, e)); len(got) != 0 {
				t.Errorf("2001 of %v: %d rows", e, len(got))
			}
		}
	}
}

func TestTruthOfManyEvents(t *testing.T) {
	n := numbers(37)
	for try := 0; try < 1000; try++ {
		l := anyLayout(&n)
		events := anyEvents(&n, l, 60)
		sameRows(t, fmt.Sprintf("%v in %+v", events, l), impl.Truth(l, events), truthPlain(l, events))
		if t.Failed() {
			return
		}
	}
}

func TestTruthArgumentsStay(t *testing.T) {
	events := []impl.Event{pass(0, 1), dies(1), pass(1, 1), {}, pass(2, 1), ghost(0, -1), reset(0)}
	counters, shortCounters := roomy(row(2).Counters, impl.Counter{From: 77, To: 77})
	list, shortList := roomy(events, impl.Event{Op: 77, Of: 77, Dir: 77})
	wantCounters, wantList := slices.Clone(counters), slices.Clone(list)
	l := impl.Layout{Sections: 2, Counters: shortCounters}
	first := impl.Truth(l, shortList)
	impl.Honest(l, shortList)
	impl.Gaps(l, shortList)
	sameList(t, "counters", counters, wantCounters)
	sameList(t, "events", list, wantList)
	sameRows(t, "the same argument", impl.Truth(l, shortList), first)
	clear(counters)
	clear(list)
	sameRows(t, "the answer, when the arguments are written into", first, truthPlain(row(2), events))
}

// TestTruthIsNewMemory writes into one row, into the room behind its end too, and looks at all others.
func TestTruthIsNewMemory(t *testing.T) {
	events := []impl.Event{{}, {}, pass(0, 1), ghost(0, 1), pass(0, 1), pass(1, 1), dies(1), reset(0), pass(1, 1), {}, pass(2, 1)}
	want := truthPlain(row(2), events)
	for at := range events {
		got := impl.Truth(row(2), events)
		written := got[at][:cap(got[at])]
		for i := range written {
			written[i] = 55
		}
		for i := range got {
			if i != at {
				sameList(t, fmt.Sprint("row ", i, ", when row ", at, " is written into"), got[i], want[i])
			}
		}
	}
	sameRows(t, "behind all these", impl.Truth(row(2), events), want)
}

func TestTruthNeverPanics(t *testing.T) {
	for _, a := range wild {
		for _, b := range wild {
			var events []impl.Event
			for _, c := range wild {
				events = append(events, impl.Event{Op: a, Of: b, Dir: c}, impl.Event{Op: 1 + len(events)%5, Of: c, Dir: b}, pass(0, 1))
			}
			sameRows(t, fmt.Sprint(a, b), impl.Truth(row(2), events), truthPlain(row(2), events))
			sameGaps(t, fmt.Sprint(a, b), row(2), events)
			sameHonest(t, fmt.Sprint(a, b), row(2), events)
			for _, c := range wild {
				l := one(a, b, c)
				truth, gaps := impl.Truth(l, events), impl.Gaps(l, events)
				if impl.LayoutOk(l) != 0 && (len(truth) != 0 || len(gaps) != 0 || impl.Honest(l, events) || impl.Honest(l, nil)) {
					t.Errorf("%+v has an answer", l)
				}
			}
		}
	}
}
