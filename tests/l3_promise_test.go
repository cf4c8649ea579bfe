package tests

import (
	"fmt"
	"slices"
	"testing"

	"loop.example/treadle/impl"
)

// allEvents are all that can happen in a layout.
func allEvents(l impl.Layout) []impl.Event {
	var all []impl.Event
	for of := range l.Counters {
		all = append(all, pass(of, 1), pass(of, -1), ghost(of, 1), ghost(of, -1), dies(of), lives(of))
	}
	for of := 0; of < l.Sections; of++ {
		all = append(all, reset(of))
	}
	return all
}

// everyList hands on each list of so many of these events, in one memory.
func everyList(all []impl.Event, length int, see func(events []impl.Event)) {
	events := make([]impl.Event, length)
	var fill func(at int)
	fill = func(at int) {
		if at == length {
			see(events)
			return
		}
		for _, e := range all {
			events[at] = e
			fill(at + 1)
		}
	}
	fill(0)
}

// noGaps asks for P4 by Gaps, and by what is told and what is so.
func noGaps(t *testing.T, l impl.Layout, events []impl.Event) {
	t.Helper()
	if got := impl.Gaps(l, events); len(got) != 0 {
		t.Fatalf("%v in %+v: gaps %v", events, l, got)
	}
	truth := impl.Truth(l, events)
	for i, d := range impl.Run(l, events) {
		for s, x := range d.State.Sections {
			if x.Told == 0 && truth[i][s] != 0 {
				t.Fatalf("%v in %+v: behind event %d section %d is told free, with %d in it", events, l, i, s, truth[i][s])
			}
		}
	}
}

// P4: of honest events there is no gap.
func TestNoGapOfHonestEvents(t *testing.T) {
	for name, events := range map[string][]impl.Event{
		"a train":                     passes(0, 0, 1, 1, 2, 2),
		"past a dead counter":         {pass(0, 1), dies(1), pass(1, 1), lives(1), pass(2, 1), reset(0), reset(1), pass(0, 1), pass(1, 1), pass(2, 1)},
		"a ghost, then a train":       {ghost(1, 1), pass(0, 1), pass(1, 1), pass(2, 1), reset(1), pass(2, -1), pass(2, 1)},
		"a ghost while it is swept":   {dies(1), lives(1), reset(1), ghost(1, 1), pass(2, -1), pass(2, 1), reset(1)},
		"one comes in while it fails": {dies(0), pass(0, 1), pass(0, 1), lives(0), pass(0, -1), pass(0, 1), pass(0, -1), pass(0, -1), reset(0), pass(0, 1)},
		"one of two leaves unseen":    {pass(0, 1), pass(0, 1), dies(1), pass(1, 1), lives(1), pass(1, 1), pass(2, 1), pass(2, 1), reset(0), reset(1)},
	} {
		if !impl.Honest(row(2), events) {
			t.Errorf("%s: not honest", name)
		}
		noGaps(t, row(2), events)
	}
}

func TestNoGapOfManyHonestEvents(t *testing.T) {
	n := numbers(53)
	swept, codes := 0, make([]int, 5)
	for try := 0; try < 4000; try++ {
		l := anyLayout(&n)
		events := truthfulEvents(&n, l, 150)
		if try%2 == 0 {
			events = fewer(&n, events, 2, 3)
		}
		if !impl.Honest(l, events) {
			t.Fatalf("%v in %+v: not honest", events, l)
		}
		noGaps(t, l, events)
		lost := make([]bool, l.Sections)
		for _, d := range impl.Run(l, events) {
			codes[d.Code]++
			for s, x := range d.State.Sections {
				lost[s] = lost[s] || x.Lost
				if lost[s] && x.Told == 0 {
					swept++
					lost[s] = false
				}
			}
		}
	}
	if swept < 100 || min(codes[0], codes[2], codes[3], codes[4]) < 1000 {
		t.Error("too few that were free again to tell anything:", swept, codes)
	}
}

// Each list of events of a small layout: the honest ones have no gap.
func TestNoGapOfAnyHonestEvents(t *testing.T) {
	honest, lies := 0, 0
	see := func(l impl.Layout) func(events []impl.Event) {
		return func(events []impl.Event) {
			if impl.Honest(l, events) {
				honest++
				noGaps(t, l, events)
			} else if len(impl.Gaps(l, events)) > 0 {
				lies++
			}
		}
	}
	dead := one(1, -1, 0)
	everyList(allEvents(dead), 6, see(dead))
	everyList(allEvents(row(1)), 4, see(row(1)))
	between := one(2, 0, 1)
	everyList(allEvents(between), 5, see(between))
	if honest < 10000 || lies < 1000 {
		t.Error("too few to tell anything:", honest, lies)
	}
}

// axlesAlone are drawn so that each goes from where one is.
func axlesAlone(n *numbers, l impl.Layout, most int) []impl.Event {
	return slices.DeleteFunc(truthfulEvents(n, l, most), func(e impl.Event) bool { return e.Op != 1 })
}

// P5: of axles alone a section is told free just when nobody is in it, and its Count is their number.
func TestAxlesAloneAreCounted(t *testing.T) {
	n := numbers(59)
	free, taken := 0, 0
	for try := 0; try < 2000; try++ {
		l := anyLayout(&n)
		events := axlesAlone(&n, l, 200)
		truth := truthPlain(l, events)
		for i, d := range impl.Run(l, events) {
			for s, x := range d.State.Sections {
				told := 1
				if truth[i][s] == 0 {
					told = 0
					free++
				} else {
					taken++
				}
				if d.Code != 0 || x.Told != told || x.Count != truth[i][s] || x.Lost || x.Sweep {
					t.Fatalf("%v in %+v: behind event %d section %d is %+v, with %d in it", events, l, i, s, x, truth[i][s])
				}
			}
		}
		sameRows(t, "Truth", impl.Truth(l, events), truth)
		if !impl.Honest(l, events) || len(impl.Gaps(l, events)) != 0 {
			t.Fatalf("%v in %+v: not honest, or gaps", events, l)
		}
	}
	if free < 10000 || taken < 10000 {
		t.Error("too few of a kind to tell anything:", free, taken)
	}
}

// As many as events can be, into one section and out of it.
func TestAxlesAloneMost(t *testing.T) {
	events := slices.Concat(slices.Repeat(passes(0), 1000), slices.Repeat([]impl.Event{pass(1, 1)}, 1000))
	for i, d := range impl.Run(row(1), events) {
		want := impl.Section{Told: 1, Count: min(i+1, 1999-i), Last: 1}
		if i >= 1000 {
			want.Last = -1
		}
		if want.Count == 0 {
			want.Told = 0
		}
		if got := d.State.Sections[0]; got != want {
			t.Fatalf("behind %d: %+v", i, got)
		}
	}
}

// apart tells whether counters have no section in common; outside is none.
func apart(a, b impl.Counter) bool {
	for _, side := range []int{a.From, a.To} {
		if side != -1 && (side == b.From || side == b.To) {
			return false
		}
	}
	return true
}

// P6: two axles at counters that have no section in common can pass in either order.
func TestEitherOrder(t *testing.T) {
	n := numbers(61)
	pairs, dead := 0, 0
	for try := 0; try < 3000; try++ {
		l := anyLayout(&n)
		s := anyState(&n, l)
		if len(l.Counters) == 0 || !impl.StateOk(l, s) {
			continue
		}
		for times := 0; times < 10; times++ {
			a, b := pass(n.below(len(l.Counters)), 1-2*n.below(2)), pass(n.below(len(l.Counters)), 1-2*n.below(2))
			if !apart(l.Counters[a.Of], l.Counters[b.Of]) {
				continue
			}
			pairs++
			aFirst, bFirst := impl.Do(l, s, a), impl.Do(l, s, b)
			bThen, aThen := impl.Do(l, aFirst.State, b), impl.Do(l, bFirst.State, a)
			what := fmt.Sprintf("%v and %v at %+v in %+v", a, b, s, l)
			sameState(t, what, bThen.State, aThen.State)
			sameList(t, what, []int{aFirst.Code, bThen.Code}, []int{aThen.Code, bFirst.Code})
			if t.Failed() {
				return
			}
			if aFirst.Code != bFirst.Code {
				dead++
			}
		}
	}
	if pairs < 2000 || dead < 100 {
		t.Error("too few to tell anything:", pairs, dead)
	}
}

// All that comes behind two that changed places is the same too.
func TestEitherOrderWithinEvents(t *testing.T) {
	n := numbers(67)
	pairs := 0
	for try := 0; try < 1500; try++ {
		l := anyLayout(&n)
		events := anyEvents(&n, l, 40)
		for i := 0; i+1 < len(events); i++ {
			a, b := events[i], events[i+1]
			if a.Op != 1 || b.Op != 1 || !eventPlain(l, a) || !eventPlain(l, b) || !apart(l.Counters[a.Of], l.Counters[b.Of]) {
				continue
			}
			pairs++
			other := slices.Clone(events)
			other[i], other[i+1] = b, a
			what := fmt.Sprintf("%v in %+v, %d and the next", events, l, i)
			sameRun(t, what, impl.Run(l, other)[i+2:], impl.Run(l, events)[i+2:])
			sameState(t, what, impl.Run(l, other)[i+1].State, impl.Run(l, events)[i+1].State)
			sameRows(t, what, impl.Truth(l, other)[i+1:], impl.Truth(l, events)[i+1:])
			if t.Failed() {
				return
			}
		}
	}
	if pairs < 300 {
		t.Error("too few pairs to tell anything:", pairs)
	}
}

// With a section in common the order is to be seen: out of an empty one counts are lost.
func TestNotEitherOrder(t *testing.T) {
	on := impl.Run(row(2), passes(0, 1))[1].State.Sections[0]
	back := impl.Run(row(2), passes(1, 0))[1].State.Sections[0]
	sameList(t, "in and out, out and in", []impl.Section{on, back}, []impl.Section{{Last: -1}, {Told: 1, Lost: true, Last: 1}})
}

// rowTrain is a train on its way through a whole row of sections, Dir 1 from the first to the last, Dir -1 back.
type rowTrain struct {
	way
	sections int
	dir      int
}

func newRowTrain(sections, dir int, bounds, axles []int) rowTrain {
	r := rowTrain{way: way{l: row(sections), axles: axles}, sections: sections, dir: dir}
	for i, at := range bounds {
		counter := i
		if dir == -1 {
			counter = sections - i
		}
		r.posts = append(r.posts, impl.Post{At: at, Counter: counter, Dir: dir})
	}
	return r
}

// within is how many axles are in each section when the front is at a place, by where the sections begin and end.
func (r rowTrain) within(front int) []int {
	axles := make([]int, r.sections)
	for i := range axles {
		section := i
		if r.dir == -1 {
			section = r.sections - 1 - i
		}
		for _, behind := range r.axles {
			if front >= r.posts[i].At+behind && front < r.posts[i+1].At+behind {
				axles[section]++
			}
		}
	}
	return axles
}

// ask goes on to each of these places in turn, and holds what is told there against where the axles are.
func (r rowTrain) ask(t *testing.T, places []int) {
	t.Helper()
	var events []impl.Event
	for _, to := range places {
		r.from, r.to = r.to, to
		events = append(events, r.passing()...)
		if len(events) == 0 {
			continue
		}
		axles := r.within(to)
		state := impl.Run(r.l, events)[len(events)-1].State
		for s, x := range state.Sections {
			told := min(axles[s], 1)
			if x.Told != told || x.Count != axles[s] {
				t.Fatalf("%+v, front at %d: section %d is %+v, with %d in it", r, to, s, x, axles[s])
			}
		}
		sameList(t, fmt.Sprint("so many are there, front at ", to), impl.Truth(r.l, events)[len(events)-1], axles)
	}
}

// P7: a train that goes through a row of sections occupies just those in which it has axles, and none behind it.
func TestTrainThroughARow(t *testing.T) {
	for sections := 1; sections <= 8; sections++ {
		for _, dir := range []int{1, -1} {
			var bounds, places []int
			for i := 0; i <= sections; i++ {
				bounds = append(bounds, 10+20*i)
			}
			for at := 0; at <= 20*sections+60; at++ {
				places = append(places, at)
			}
			for _, axles := range [][]int{{0}, {0, 5}, {0, 20}, {0, 3, 22, 25}, {0, 45}, {4, 4, 4}} {
				newRowTrain(sections, dir, bounds, axles).ask(t, places)
			}
		}
	}
}

func TestTrainThroughARowByHand(t *testing.T) {
	// two axles 45 apart, sections of 20: the one between them is free for a while, though the train is over it
	r := newRowTrain(3, 1, []int{10, 30, 50, 70}, []int{0, 45})
	for _, c := range []struct {
		to   int
		want []int
	}{
		{10, []int{1, 0, 0}}, {29, []int{1, 0, 0}}, {30, []int{0, 1, 0}}, {50, []int{0, 0, 1}}, {54, []int{0, 0, 1}},
		{55, []int{1, 0, 1}}, {69, []int{1, 0, 1}}, {70, []int{1, 0, 0}}, {75, []int{0, 1, 0}}, {95, []int{0, 0, 1}}, {115, []int{0, 0, 0}},
	} {
		r.from, r.to = 0, c.to
		done := impl.Run(r.l, r.passing())
		var told []int
		for _, x := range done[len(done)-1].State.Sections {
			told = append(told, x.Told)
		}
		sameList(t, fmt.Sprint("front at ", c.to), told, c.want)
	}
}

func TestTrainThroughManyRows(t *testing.T) {
	n := numbers(71)
	for try := 0; try < 400; try++ {
		sections := 1 + n.below(8)
		bounds, axles := []int{1 + n.below(5)}, []int{n.below(3)}
		for len(bounds) <= sections {
			bounds = append(bounds, bounds[len(bounds)-1]+n.below(12))
		}
		for i := n.below(9); i > 0; i-- {
			axles = append(axles, axles[len(axles)-1]+n.below(9))
		}
		end := bounds[sections] + axles[len(axles)-1]
		places := []int{0}
		for places[len(places)-1] < end {
			places = append(places, min(end, places[len(places)-1]+1+n.below(6)))
		}
		r := newRowTrain(sections, 1-2*n.below(2), bounds, axles)
		r.ask(t, places)
		if slices.Max(r.within(end)) != 0 {
			t.Fatalf("%+v is not through at %d", r, end)
		}
	}
}

// The longest train in the longest row.
func TestLongTrainThroughARow(t *testing.T) {
	var axles, bounds, places []int
	for i := 0; i < 200; i++ {
		axles = append(axles, i/2*3)
	}
	for i := 0; i <= 8; i++ {
		bounds = append(bounds, 100+50*i)
	}
	for at := 100; at <= 900; at += 50 {
		places = append(places, at, at+1, at+17)
	}
	newRowTrain(8, 1, bounds, axles).ask(t, places)
	newRowTrain(8, -1, bounds, axles).ask(t, places)
}

// sweptWhole tells whether behind a reset as many were counted out of a section as into it, at least one, and never more out than in.
func sweptWhole(l impl.Layout, events []impl.Event, done []impl.Done, section int) bool {
	in, out := 0, 0
	for i, e := range events {
		if done[i].Code != 0 || e.Op > 2 {
			continue
		}
		from, to := sidesPlain(l, e)
		if e.Op == 1 && from == section {
			out++
		}
		if to == section {
			in++
		}
		if out > in {
			return false
		}
		if in > 0 && in == out {
			return true
		}
	}
	return false
}

// freedRightly asks for P8 of a section that is told free behind the last of these events; mended says that a counter of it had died.
func freedRightly(l impl.Layout, events []impl.Event, done []impl.Done, section int) (mended, right bool) {
	death, word := -1, -1
	for i, e := range events {
		if e.Op == 3 && done[i].Code == 0 && (l.Counters[e.Of].From == section || l.Counters[e.Of].To == section) {
			death = i
		}
		if e.Op == 5 && done[i].Code == 0 && e.Of == section {
			word = i
		}
	}
	if death == -1 {
		return false, true
	}
	return true, word > death && sweptWhole(l, events[word+1:], done[word+1:], section)
}

func askFreed(t *testing.T, l impl.Layout, events []impl.Event) (mended int) {
	t.Helper()
	done := impl.Run(l, events)
	for i, d := range done {
		for s, x := range d.State.Sections {
			if x.Told != 0 {
				continue
			}
			was, right := freedRightly(l, events[:i+1], done[:i+1], s)
			if !right {
				t.Fatalf("%v in %+v: behind event %d section %d is told free", events, l, i, s)
			}
			if was {
				mended++
			}
		}
	}
	return mended
}

// P8: a section whose counter died is free again only behind a reset and a train that went through whole.
func TestFreeAgainByHand(t *testing.T) {
	events := []impl.Event{
		dies(1), lives(1), // it lives, yet counts were lost
		pass(0, 1), pass(0, 1), pass(1, 1), pass(1, 1), pass(2, 1), pass(2, 1), // a train without a reset
		reset(0), reset(1), // a reset without a train
		pass(0, 1), pass(0, 1), pass(1, 1), // a train that is not through the first
		pass(1, 1),             // the first: whole
		pass(2, 1), pass(2, 1), // the second
	}
	got := impl.Run(row(2), events)
	sameList(t, "codes", codesOf(got), make([]int, len(events)))
	sameList(t, "the first section", toldOf(got, 0), []int{3, 1, 1, 1, 1, 1, 1, 1, 2, 2, 2, 2, 2, 0, 0, 0})
	sameList(t, "the second section", toldOf(got, 1), []int{3, 1, 1, 1, 1, 1, 1, 1, 1, 2, 2, 2, 2, 2, 2, 0})
}

func TestFreeAgainNot(t *testing.T) {
	train := passes(0, 1)
	for name, events := range map[string][]impl.Event{
		"dead":                              {dies(0)},
		"alive":                             {dies(0), lives(0)},
		"a train without a reset":           slices.Concat([]impl.Event{dies(0), lives(0)}, train, train),
		"a reset ahead of the death":        slices.Concat([]impl.Event{reset(0), dies(0), lives(0)}, train),
		"a reset refused, it is dead":       slices.Concat([]impl.Event{dies(0), reset(0), lives(0)}, train),
		"a reset refused, the last went in": slices.Concat([]impl.Event{dies(0), lives(0), pass(0, 1), reset(0), pass(1, 1)}, train),
		"a reset without a train":           {dies(0), lives(0), reset(0)},
		"a train ahead of the reset":        slices.Concat([]impl.Event{dies(0), lives(0)}, train, []impl.Event{reset(0)}),
		"a train that is still there":       {dies(0), lives(0), reset(0), pass(0, 1), pass(0, 1), pass(1, 1)},
		"one out ahead of one in":           {dies(0), lives(0), reset(0), pass(1, 1), pass(0, 1)},
		"the other counter died between":    slices.Concat([]impl.Event{dies(0), lives(0), reset(0), pass(0, 1), dies(1), pass(1, 1), lives(1)}, train),
		"it died again behind the reset":    slices.Concat([]impl.Event{dies(0), lives(0), reset(0), dies(0), lives(0)}, train),
		"another reset behind the train":    slices.Concat([]impl.Event{dies(0), lives(0), reset(0)}, train, []impl.Event{reset(0)}),
		"the other one is dead still":       slices.Concat([]impl.Event{dies(0), dies(1), lives(0), reset(0)}, train),
	} {
		done := impl.Run(row(1), events)
		if got := done[len(done)-1].State.Sections[0].Told; got == 0 {
			t.Errorf("%s: told free", name)
		}
		askFreed(t, row(1), events)
	}
}

func TestFreeAgainOfAnyEvents(t *testing.T) {
	mended := 0
	see := func(l impl.Layout) func(events []impl.Event) {
		return func(events []impl.Event) {
			mended += askFreed(t, l, append([]impl.Event{dies(0)}, events...))
		}
	}
	everyList(allEvents(one(1, -1, 0)), 6, see(one(1, -1, 0)))
	everyList(allEvents(row(1)), 4, see(row(1)))
	if mended < 100 {
		t.Error("too few that are free again to tell anything:", mended)
	}
}

func TestFreeAgainOfManyEvents(t *testing.T) {
	n := numbers(73)
	mended := 0
	for try := 0; try < 1500; try++ {
		l := anyLayout(&n)
		for _, events := range [][]impl.Event{anyEvents(&n, l, 100), truthfulEvents(&n, l, 100)} {
			mended += askFreed(t, l, events)
			mended += askFreed(t, l, fewer(&n, events, 2, 3))
		}
	}
	if mended < 300 {
		t.Error("too few that are free again to tell anything:", mended)
	}
}
