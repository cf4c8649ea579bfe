package tests

import (
	"fmt"
	"slices"
	"testing"

	"loop.example/treadle/impl"
)

// gapsPlain is the document's sentence on gaps, for a right layout and not too many events.
func gapsPlain(l impl.Layout, events []impl.Event) []impl.Gap {
	done, rows := runPlain(l, events), truthPlain(l, events)
	var gaps []impl.Gap
	for i := range events {
		for s := 0; s < l.Sections; s++ {
			if done[i].State.Sections[s].Told == 0 && rows[i][s] != 0 {
				gaps = append(gaps, impl.Gap{Event: i, Section: s})
			}
		}
	}
	return gaps
}

func sameGaps(t *testing.T, what string, l impl.Layout, events []impl.Event) {
	t.Helper()
	sameList(t, what, impl.Gaps(l, events), gapsPlain(l, events))
}

// liars are events behind which one is left in a section of a row that is told free: it came in while the counter ahead of the section was dead, a person said that nobody was there, and another came in and went back.
func liars(section int) []impl.Event {
	return []impl.Event{dies(section), pass(section, 1), lives(section), reset(section), pass(section, 1), pass(section, -1)}
}

func TestGapsOfALie(t *testing.T) {
	sameList(t, "swept by another", impl.Gaps(row(1), liars(0)), []impl.Gap{{Event: 5, Section: 0}})
	stays := append(liars(0), pass(0, 1), impl.Event{}, pass(0, -1), reset(0), pass(0, 1), pass(0, -1), pass(0, -1))
	// occupied by the next one, swept for, and told occupied when the one leaves that was there all the time
	sameList(t, "told free again and again", impl.Gaps(row(1), stays), []impl.Gap{{Event: 5}, {Event: 8}, {Event: 11}})
	sameList(t, "none at the end of a beginning", impl.Gaps(row(1), liars(0)[:5]), nil)
}

func TestGapsBelowNobody(t *testing.T) {
	events := []impl.Event{ghost(0, 1), pass(1, 1), pass(1, 1), pass(0, 1), pass(0, 1)}
	// a ghost is counted in, one that is not there out: told free with fewer than nobody in it
	sameList(t, "below 0", impl.Gaps(row(1), events), []impl.Gap{{Event: 1, Section: 0}})
}

func TestGapsInTheirOrder(t *testing.T) {
	none := impl.Event{}
	events := []impl.Event{
		ghost(2, 1), pass(3, 1), // 2 is told free, and has -1; 3 has one that is counted
		ghost(0, 1), pass(0, -1), // so is 0
		none,
		ghost(1, 1), pass(1, -1), // 0 gets one: it is occupied, and 0 by truth; 1 is told free and has -1
		dies(3), // 2 and 3 fail
		lives(3),
		pass(0, -1), // 0 is told free with -1 in it
	}
	sameList(t, "gaps", impl.Gaps(row(4), events), []impl.Gap{
		{Event: 1, Section: 2}, {Event: 2, Section: 2},
		{Event: 3, Section: 0}, {Event: 3, Section: 2},
		{Event: 4, Section: 0}, {Event: 4, Section: 2},
		{Event: 5, Section: 0}, {Event: 5, Section: 2},
		{Event: 6, Section: 1}, {Event: 6, Section: 2},
		{Event: 7, Section: 1}, {Event: 8, Section: 1},
		{Event: 9, Section: 0}, {Event: 9, Section: 1},
	})
	sameGaps(t, "by the document", row(4), events)
}

func TestGapsOfManySectionsAtOnce(t *testing.T) {
	l := impl.Layout{Sections: 60}
	var events []impl.Event
	for s := 59; s >= 0; s-- {
		l.Counters = append(l.Counters, impl.Counter{From: -1, To: s})
		of := len(l.Counters) - 1
		events = append(events, ghost(of, 1), pass(of, -1))
	}
	got := impl.Gaps(l, events)
	var last []impl.Gap
	for s := 0; s < 60; s++ {
		last = append(last, impl.Gap{Event: 119, Section: s})
	}
	sameList(t, "behind the last event", got[max(0, len(got)-60):], last)
	sameList(t, "all", got, gapsPlain(l, events))
}

// Only what is told Free can be a gap.
func TestGapsNotOfOtherTold(t *testing.T) {
	for name, c := range map[string]struct {
		events []impl.Event
		told   int
		truth  int
	}{
		"occupied":          {passes(0), 1, 1},
		"occupied by lost":  {[]impl.Event{dies(0), pass(0, 1), lives(0)}, 1, 1},
		"sweeping":          {[]impl.Event{dies(0), pass(0, 1), lives(0), reset(0)}, 2, 1},
		"failed":            {[]impl.Event{dies(0), pass(0, 1)}, 3, 1},
		"failed, below 0":   {[]impl.Event{dies(0), pass(0, -1)}, 3, -1},
		"occupied, below 0": {[]impl.Event{pass(1, 1)}, 1, -1},
		"free":              {nil, 0, 0},
	} {
		sameList(t, name, impl.Gaps(row(1), c.events), nil)
		if len(c.events) == 0 {
			continue
		}
		end := len(c.events) - 1
		if told := impl.Run(row(1), c.events)[end].State.Sections[0].Told; told != c.told {
			t.Errorf("%s: told %d", name, told)
		}
		sameList(t, name, impl.Truth(row(1), c.events)[end], []int{c.truth})
	}
}

func TestGapsOfNothing(t *testing.T) {
	answersNothing(t, impl.Gaps)
	for name, l := range wrongLayouts() {
		sameList(t, name, impl.Gaps(l, liars(0)), nil)
	}
	sameList(t, "events that are none", impl.Gaps(row(2), make([]impl.Event, 3)), nil)
}

func TestGapsMostEvents(t *testing.T) {
	for _, l := range []impl.Layout{row(1), row(60)} {
		events := append(liars(0), make([]impl.Event, 1994)...)
		got := impl.Gaps(l, events)
		if len(got) != 1995 || got[0].Event != 5 || got[1994].Event != 1999 {
			t.Errorf("2000: %d gaps", len(got))
		}
		sameList(t, "2001", impl.Gaps(l, append(events, impl.Event{})), nil)
		sameList(t, "2001 with a gap at the end", impl.Gaps(l, append(make([]impl.Event, 1995), liars(0)...)), nil)
		sameList(t, "2000 with a gap at the end", impl.Gaps(l, append(make([]impl.Event, 1994), liars(0)...)), []impl.Gap{{Event: 1999, Section: 0}})
	}
}

func TestGapsOfManyEvents(t *testing.T) {
	n := numbers(47)
	gaps, crowds := 0, 0
	for try := 0; try < 1500; try++ {
		l := anyLayout(&n)
		events := fewer(&n, anyEvents(&n, l, 120), 3)
		got := impl.Gaps(l, events)
		sameList(t, fmt.Sprintf("%v in %+v", events, l), got, gapsPlain(l, events))
		if t.Failed() {
			return
		}
		gaps += len(got)
		for i := 1; i < len(got); i++ {
			if got[i].Event == got[i-1].Event {
				crowds++
			}
		}
	}
	if gaps < 1000 || crowds < 100 {
		t.Error("too few gaps to tell anything:", gaps, crowds)
	}
}

func TestGapsIsNewMemory(t *testing.T) {
	events := append(liars(0), impl.Event{}, impl.Event{})
	first, second := impl.Gaps(row(1), events), impl.Gaps(row(1), events)
	want := slices.Clone(second)
	written := first[:cap(first)]
	for i := range written {
		written[i] = impl.Gap{Event: 99, Section: 99}
	}
	sameList(t, "an answer beside one that was written into", second, want)
	sameList(t, "an answer behind one that was written into", impl.Gaps(row(1), events), want)
}
