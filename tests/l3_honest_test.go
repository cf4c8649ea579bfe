package tests

import (
	"fmt"
	"slices"
	"testing"

	"loop.example/treadle/impl"
)

// honestPlain is the document's sentence on honesty, for a right layout and not too many events.
func honestPlain(l impl.Layout, events []impl.Event) bool {
	rows := truthPlain(l, events)
	for i, e := range events {
		if !eventPlain(l, e) {
			return false
		}
		if e.Op == 5 && i > 0 && rows[i-1][e.Of] != 0 {
			return false
		}
		for _, axles := range rows[i] {
			if axles < 0 {
				return false
			}
		}
	}
	return true
}

func sameHonest(t *testing.T, what string, l impl.Layout, events []impl.Event) {
	t.Helper()
	if got, want := impl.Honest(l, events), honestPlain(l, events); got != want {
		t.Errorf("%s: %v, want %v", what, got, want)
	}
}

func TestHonest(t *testing.T) {
	for name, events := range map[string][]impl.Event{
		"no events":                        nil,
		"an empty list":                    {},
		"a train":                          passes(0, 0, 1, 1, 2, 2),
		"a train the other way":            {pass(2, -1), pass(1, -1), pass(0, -1)},
		"there and back":                   {pass(0, 1), pass(1, 1), pass(1, -1), pass(0, -1)},
		"a reset at first":                 {reset(0), reset(1)},
		"a reset where nobody is":          {pass(0, 1), reset(1), pass(1, 1), reset(0), pass(2, 1), reset(1)},
		"a reset just behind the last one": {pass(0, 1), pass(0, 1), pass(1, 1), pass(1, 1), reset(0)},
		"a reset that is refused, 3":       {dies(0), reset(0)},
		"a reset that is refused, 4":       {ghost(0, 1), reset(0)},
		"ghosts":                           {ghost(0, 1), ghost(1, -1), ghost(2, 1), ghost(1, 1)},
		"a ghost, and a reset there":       {ghost(0, 1), ghost(1, 1), reset(0), reset(1)},
		"dead and alive":                   {dies(0), dies(0), lives(0), lives(0), lives(2), dies(2)},
		"past a dead counter and on":       {dies(0), pass(0, 1), pass(1, 1), reset(0), pass(2, 1)},
	} {
		if !impl.Honest(row(2), events) {
			t.Error(name)
		}
		sameHonest(t, name, row(2), events)
	}
	if !impl.Honest(impl.Layout{Sections: 1}, nil) || !impl.Honest(impl.Layout{Sections: 1}, []impl.Event{reset(0)}) {
		t.Error("no counters")
	}
}

func TestHonestNot(t *testing.T) {
	for name, events := range map[string][]impl.Event{
		"an event that is none":                       {{}},
		"an Op that is none":                          {pass(0, 1), {Op: 6, Dir: 1}},
		"a counter that is none":                      {pass(0, 1), pass(3, 1)},
		"a Dir that is none":                          {pass(0, 0)},
		"a ghost with no Dir":                         {ghost(0, 0)},
		"a death with a Dir":                          {{Op: 3, Dir: 1}},
		"one that lives again with a Dir":             {{Op: 4, Dir: -1}},
		"a reset with a Dir":                          {{Op: 5, Dir: 1}},
		"a section that is none":                      {reset(2)},
		"a section below 0":                           {reset(-1)},
		"none at the end":                             append(passes(0, 1, 2), impl.Event{}),
		"none at the beginning":                       append([]impl.Event{{}}, passes(0, 1, 2)...),
		"a reset where somebody is":                   {pass(0, 1), reset(0)},
		"a reset where two are":                       {pass(0, 1), pass(0, 1), reset(0)},
		"a reset where one of two still is":           {pass(0, 1), pass(0, 1), pass(1, 1), reset(0)},
		"a reset of the second, where one is":         {pass(0, 1), pass(1, 1), reset(1)},
		"a reset that is refused, 3":                  {pass(0, 1), dies(0), reset(0)},
		"a reset that is refused, 4":                  {pass(0, 1), reset(0), pass(1, 1), pass(2, 1)},
		"a reset of one that was not counted":         {dies(0), pass(0, 1), lives(0), reset(0)},
		"a reset, then it leaves":                     {pass(0, 1), pass(0, 1), pass(1, 1), reset(0), pass(1, 1), pass(2, 1), pass(2, 1)},
		"below nobody at first":                       {pass(1, 1)},
		"below nobody to outside":                     {pass(2, 1)},
		"below nobody, Dir -1":                        {pass(0, -1)},
		"below nobody, made good at once":             {pass(1, 1), pass(0, 1), pass(2, 1)},
		"below nobody in the second, made good":       {pass(2, 1), pass(0, 1), pass(1, 1)},
		"below nobody past a dead counter":            {dies(1), pass(1, 1)},
		"one of a ghost goes on":                      {ghost(0, 1), pass(1, 1)},
		"one more goes out than came in":              {pass(0, 1), pass(1, 1), pass(1, 1)},
		"a reset at a number below 0, then made good": {pass(1, 1), reset(0), pass(0, 1), pass(2, 1)},
	} {
		if impl.Honest(row(2), events) {
			t.Error(name)
		}
		sameHonest(t, name, row(2), events)
	}
}

// It is the section of the reset that is asked for, no other.
func TestHonestAsksTheSectionOfTheReset(t *testing.T) {
	for at := 0; at < 8; at++ {
		var in []impl.Event
		for i := 0; i <= at; i++ {
			in = append(in, pass(i, 1))
		}
		for section := 0; section < 8; section++ {
			if got := impl.Honest(row(8), append(slices.Clone(in), reset(section))); got != (section != at) {
				t.Errorf("one in %d, reset of %d: %v", at, section, got)
			}
		}
	}
}

func TestHonestWrongLayouts(t *testing.T) {
	for name, l := range wrongLayouts() {
		for _, events := range [][]impl.Event{nil, {}, passes(0), {reset(0)}, {dies(0)}, make([]impl.Event, 2001)} {
			if impl.Honest(l, events) {
				t.Errorf("%s: %d events", name, len(events))
			}
		}
	}
}

func TestHonestMostEvents(t *testing.T) {
	full := many(120)
	full.Sections = 60
	for _, l := range []impl.Layout{row(2), row(60), full} {
		for _, e := range []impl.Event{pass(0, 1), ghost(0, 1), dies(0), lives(0), reset(0)} {
			events := slices.Repeat([]impl.Event{e}, 2000)
			if !impl.Honest(l, events) {
				t.Errorf("2000 of %v", e)
			}
			if impl.Honest(l, append(slices.Clone(events), e)) {
				t.Errorf("2001 of %v", e)
			}
			events[1999] = impl.Event{}
			if impl.Honest(l, events) {
				t.Errorf("2000 of %v, the last one none", e)
			}
		}
	}
}

// truthfulEvents are drawn so that they are honest; whoever goes is there, and a reset comes where nobody is.
func truthfulEvents(n *numbers, l impl.Layout, most int) []impl.Event {
	var events []impl.Event
	there := make([]int, l.Sections)
	for i := n.below(most + 1); i > 0; i-- {
		e := anyEvent(n, l)
		if !eventPlain(l, e) {
			continue
		}
		if e.Op == 1 {
			from, to := sidesPlain(l, e)
			if from != -1 && there[from] == 0 {
				continue
			}
			if from != -1 {
				there[from]--
			}
			if to != -1 {
				there[to]++
			}
		}
		if e.Op == 5 && there[e.Of] != 0 {
			continue
		}
		events = append(events, e)
	}
	return events
}

// fewer leaves few of the events with these Ops: with fewer deaths and ghosts more is told free.
func fewer(n *numbers, events []impl.Event, ops ...int) []impl.Event {
	return slices.DeleteFunc(events, func(e impl.Event) bool {
		return slices.Contains(ops, e.Op) && n.below(6) > 0
	})
}

func TestHonestOfManyEvents(t *testing.T) {
	n := numbers(41)
	times := map[bool]int{}
	for try := 0; try < 4000; try++ {
		l := anyLayout(&n)
		events := truthfulEvents(&n, l, 40)
		if !impl.Honest(l, events) {
			t.Fatalf("%v in %+v", events, l)
		}
		if len(events) > 0 { // one event in place of another spoils it, or does not
			events[n.below(len(events))] = anyEvent(&n, l)
		}
		times[honestPlain(l, events)]++
		sameHonest(t, fmt.Sprintf("%v in %+v", events, l), l, events)
		if t.Failed() {
			return
		}
	}
	if times[true] < 300 || times[false] < 300 {
		t.Error("too few of a kind to tell anything:", times)
	}
}

// What was not honest stays so whatever comes behind it.
func TestHonestOfABeginning(t *testing.T) {
	n := numbers(43)
	for try := 0; try < 500; try++ {
		l := anyLayout(&n)
		events := anyEvents(&n, l, 12)
		honest := true
		for end := 0; end <= len(events); end++ {
			got := impl.Honest(l, events[:end])
			if got && !honest {
				t.Fatalf("%v in %+v: honest again at %d", events, l, end)
			}
			honest = got
		}
	}
}
