package tests

import (
	"fmt"
	"slices"
	"testing"

	"loop.example/treadle/impl"
)

// runPlain is the document's sentence on runs, for a right layout.
func runPlain(l impl.Layout, events []impl.Event) []impl.Done {
	s := impl.State{Ok: true, Sections: make([]impl.Section, l.Sections), Dead: make([]bool, len(l.Counters))}
	var done []impl.Done
	for _, e := range events {
		d := impl.Done{Code: 1, State: s}
		if eventPlain(l, e) {
			d = stepPlain(l, s, e)
		}
		done = append(done, d)
		s = d.State
	}
	return done
}

func sameRun(t *testing.T, what string, got, want []impl.Done) {
	t.Helper()
	if len(got) != len(want) {
		t.Errorf("%s: %d answers, want %d", what, len(got), len(want))
		return
	}
	for i := range got {
		sameDone(t, fmt.Sprint(what, ", event ", i), got[i], want[i])
	}
}

func codesOf(done []impl.Done) []int {
	var codes []int
	for _, d := range done {
		codes = append(codes, d.Code)
	}
	return codes
}

// toldOf is what is told of a section behind each event.
func toldOf(done []impl.Done, section int) []int {
	var told []int
	for _, d := range done {
		told = append(told, d.State.Sections[section].Told)
	}
	return told
}

func TestRunOfATrain(t *testing.T) {
	// two axles through a row of two
	got := impl.Run(row(2), passes(0, 0, 1, 1, 2, 2))
	sameList(t, "codes", codesOf(got), []int{0, 0, 0, 0, 0, 0})
	sameList(t, "the first section", toldOf(got, 0), []int{1, 1, 1, 0, 0, 0})
	sameList(t, "the second section", toldOf(got, 1), []int{0, 0, 1, 1, 1, 0})
	sameList(t, "in its middle", got[2].State.Sections, []impl.Section{{Told: 1, Count: 1, Last: -1}, {Told: 1, Count: 1, Last: 1}})
	sameState(t, "at its end", got[5].State, impl.State{Ok: true, Sections: []impl.Section{{Last: -1}, {Last: -1}}, Dead: make([]bool, 3)})
}

func TestRunOfADeadCounter(t *testing.T) {
	events := []impl.Event{
		pass(0, 1), // into section 0
		dies(1),    // both sections are lost
		pass(1, 1), // nobody saw it go on
		reset(0),   // 3: a counter around it is dead
		lives(1),   // lost still
		reset(0),   // 4: the last one went in
		reset(1),   // nobody was counted there yet
		pass(2, 1), // but one was there: lost again, and it waits on
		reset(1),   // its last one went out
		pass(1, 1), // out of 0, into 1
		reset(0),   // its last one went out now
		pass(0, 1), // sweeping goes on with one in it
		pass(1, 1), // and ends when that one has left
		pass(2, 1),
		pass(2, 1),
	}
	got := impl.Run(row(2), events)
	sameList(t, "codes", codesOf(got), []int{0, 0, 2, 3, 0, 4, 0, 0, 0, 0, 0, 0, 0, 0, 0})
	sameList(t, "the first section", toldOf(got, 0), []int{1, 3, 3, 3, 1, 1, 1, 1, 1, 1, 2, 2, 0, 0, 0})
	sameList(t, "the second section", toldOf(got, 1), []int{0, 3, 3, 3, 1, 1, 2, 1, 2, 2, 2, 2, 2, 2, 0})
	sameState(t, "behind the pass that was not seen", got[2].State, impl.State{Ok: true,
		Sections: []impl.Section{{Told: 3, Count: 1, Lost: true, Last: 1}, {Told: 3, Lost: true}}, Dead: deadAt(3, 1)})
	sameList(t, "one left that nobody had counted", got[7].State.Sections[1:], []impl.Section{{Told: 1, Count: -1, Lost: true, Sweep: true, Last: -1}})
}

func TestRunOfAGhost(t *testing.T) {
	got := impl.Run(row(2), []impl.Event{ghost(1, 1), reset(1), pass(0, 1), pass(1, 1), pass(2, 1), reset(1), pass(2, 1), reset(1), pass(2, -1), pass(2, 1)})
	sameList(t, "codes", codesOf(got), []int{0, 4, 0, 0, 0, 0, 0, 0, 0, 0})
	sameList(t, "the section it was seen to go into", toldOf(got, 1), []int{1, 1, 1, 1, 1, 2, 1, 2, 2, 0})
	sameList(t, "the section it was not in", toldOf(got, 0), []int{0, 0, 1, 0, 0, 0, 0, 0, 0, 0})
}

// Sweeping does not end when the Count comes to 0 from below.
func TestRunSweepingFromBelow(t *testing.T) {
	got := impl.Run(row(1), []impl.Event{reset(0), pass(1, 1), pass(0, 1), pass(0, 1), pass(1, 1)})
	var all []impl.Section
	for _, d := range got {
		all = append(all, d.State.Sections...)
	}
	sameList(t, "the section", all, []impl.Section{
		{Told: 2, Sweep: true},
		{Told: 1, Count: -1, Lost: true, Sweep: true, Last: -1},
		{Told: 1, Lost: true, Sweep: true, Last: 1},
		{Told: 1, Count: 1, Lost: true, Sweep: true, Last: 1},
		{Told: 1, Lost: true, Last: -1},
	})
}

func TestRunEventsThatAreNone(t *testing.T) {
	events := []impl.Event{{}, pass(0, 1), {Op: 6}, pass(0, 0), pass(3, 1), dies(0), {Op: 3, Of: 1, Dir: 1}, reset(2), reset(-1), lives(3), {Op: -1, Of: -1, Dir: -1}}
	got := impl.Run(row(2), events)
	sameList(t, "codes", codesOf(got), []int{1, 0, 1, 1, 1, 0, 1, 1, 1, 1, 1})
	sameState(t, "the first", got[0].State, impl.Begin(row(2)))
	in := impl.State{Ok: true, Sections: []impl.Section{{Told: 1, Count: 1, Last: 1}, {}}, Dead: deadAt(3)}
	failed := impl.State{Ok: true, Sections: []impl.Section{{Told: 3, Count: 1, Lost: true, Last: 1}, {}}, Dead: deadAt(3, 0)}
	for i := 1; i < len(events); i++ {
		want := in
		if i >= 5 {
			want = failed
		}
		sameState(t, fmt.Sprint("behind ", i), got[i].State, want)
	}
}

// answersNothing asks a function for the cases in which Run has no answer, and without events.
func answersNothing[T any](t *testing.T, answer func(l impl.Layout, events []impl.Event) []T) {
	t.Helper()
	for name, l := range wrongLayouts() {
		for _, events := range [][]impl.Event{nil, passes(0), {{}}, {reset(0)}, make([]impl.Event, 2001)} {
			if got := answer(l, events); len(got) != 0 {
				t.Errorf("%s: %v", name, got)
			}
		}
	}
	for _, events := range [][]impl.Event{nil, {}, make([]impl.Event, 2001)} {
		if got := answer(row(2), events); len(got) != 0 {
			t.Errorf("%d events: %v", len(events), got)
		}
	}
}

func TestRunOfNothing(t *testing.T) {
	answersNothing(t, impl.Run)
}

func TestRunMostEvents(t *testing.T) {
	full := many(120)
	full.Sections = 60
	for _, l := range []impl.Layout{row(2), row(60), full} {
		var events []impl.Event
		for i := 0; i < 2000; i++ {
			events = append(events, pass(0, 1))
		}
		got := impl.Run(l, events)
		sameRun(t, "2000", got, runPlain(l, events))
		if len(got) != 2000 || got[1999].State.Sections[0].Count != 2000 {
			t.Error("2000:", len(got))
		}
		if got := impl.Run(l, append(events, pass(0, 1))); len(got) != 0 {
			t.Error("2001:", len(got))
		}
		if got := impl.Run(l, make([]impl.Event, 2000)); len(got) != 2000 || got[1999].Code != 1 {
			t.Error("2000 that are none:", len(got))
		}
		if got := impl.Run(l, make([]impl.Event, 2001)); len(got) != 0 {
			t.Error("2001 that are none:", len(got))
		}
	}
}

func anyEvents(n *numbers, l impl.Layout, most int) []impl.Event {
	var events []impl.Event
	for i := n.below(most + 1); i > 0; i-- {
		events = append(events, anyEvent(n, l))
	}
	return events
}

// TestRunOfManyEvents asks also that every state of a run is one, and that Do goes the same way.
func TestRunOfManyEvents(t *testing.T) {
	n := numbers(29)
	codes := make([]int, 5)
	for try := 0; try < 600; try++ {
		l := anyLayout(&n)
		events := anyEvents(&n, l, 80)
		got := impl.Run(l, events)
		sameRun(t, fmt.Sprintf("%v in %+v", events, l), got, runPlain(l, events))
		if t.Failed() {
			return
		}
		state := impl.Begin(l)
		for i, d := range got {
			codes[d.Code]++
			if !impl.StateOk(l, d.State) || !statePlain(l, d.State) {
				t.Fatalf("%v in %+v: behind %d no state", events, l, i)
			}
			if d.Code != 1 {
				sameDone(t, "Do", impl.Do(l, state, events[i]), d)
			} else {
				sameDone(t, "Do", impl.Do(l, state, events[i]), impl.Done{Code: 1})
				sameState(t, "the state as it is", d.State, state)
			}
			state = d.State
		}
	}
	for code, times := range codes {
		if times < 100 {
			t.Errorf("code %d came %d times only", code, times)
		}
	}
}

// A run is one with any of its beginnings.
func TestRunOfABeginning(t *testing.T) {
	n := numbers(31)
	for try := 0; try < 50; try++ {
		l := anyLayout(&n)
		events := anyEvents(&n, l, 30)
		whole := impl.Run(l, events)
		for end := range events {
			sameRun(t, "a beginning", impl.Run(l, events[:end]), whole[:end])
		}
	}
}

func TestRunArgumentsStay(t *testing.T) {
	events := []impl.Event{pass(0, 1), dies(1), pass(1, 1), lives(1), reset(0), {}, reset(1), ghost(0, -1)}
	counters, shortCounters := roomy(row(2).Counters, impl.Counter{From: 77, To: 77})
	list, shortList := roomy(events, impl.Event{Op: 77, Of: 77, Dir: 77})
	wantCounters, wantList := slices.Clone(counters), slices.Clone(list)
	first := impl.Run(impl.Layout{Sections: 2, Counters: shortCounters}, shortList)
	sameList(t, "counters", counters, wantCounters)
	sameList(t, "events", list, wantList)
	sameRun(t, "the same argument", impl.Run(impl.Layout{Sections: 2, Counters: shortCounters}, shortList), first)
	clear(counters)
	clear(list)
	sameRun(t, "the answer, when the arguments are written into", first, runPlain(row(2), events))
}

// TestRunIsNewMemory writes into one state of a run, and looks at all others.
func TestRunIsNewMemory(t *testing.T) {
	events := []impl.Event{{}, {}, pass(0, 1), pass(0, 1), {}, dies(1), pass(1, 1), {}, reset(0), lives(1), reset(0), lives(1), reset(1), ghost(2, 1), {}}
	want := runPlain(row(2), events)
	for at := range events {
		got := impl.Run(row(2), events)
		spoilState(got[at].State)
		for i := range got {
			if i != at {
				sameDone(t, fmt.Sprint("event ", i, ", when the state behind ", at, " is written into"), got[i], want[i])
			}
		}
	}
	sameRun(t, "behind all these", impl.Run(row(2), events), want)
}

func TestRunNeverPanics(t *testing.T) {
	for _, a := range wild {
		for _, b := range wild {
			var events []impl.Event
			for _, c := range wild {
				events = append(events, impl.Event{Op: a, Of: b, Dir: c}, impl.Event{Op: 1 + len(events)%5, Of: c, Dir: b}, pass(0, 1))
			}
			sameRun(t, fmt.Sprint(a, b), impl.Run(row(2), events), runPlain(row(2), events))
			for _, c := range wild {
				impl.Run(one(a, b, c), events)
			}
		}
	}
}
