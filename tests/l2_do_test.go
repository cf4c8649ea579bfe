package tests

import (
	"fmt"
	"slices"
	"testing"

	"loop.example/treadle/impl"
)

// stepPlain is the document's list of what each event does, for a state and an event that are ones.
func stepPlain(l impl.Layout, s impl.State, e impl.Event) impl.Done {
	next := twin(s)
	code := 0
	switch e.Op {
	case 1, 2:
		from, to := sidesPlain(l, e)
		if s.Dead[e.Of] {
			code = 2
			break
		}
		if e.Op == 1 && from != -1 {
			countPlain(&next.Sections[from], -1)
		}
		if to != -1 {
			countPlain(&next.Sections[to], 1)
		}
	case 3:
		next.Dead[e.Of] = true
		for i := range next.Sections {
			if l.Counters[e.Of].From == i || l.Counters[e.Of].To == i {
				next.Sections[i].Lost = true
			}
		}
	case 4:
		next.Dead[e.Of] = false
	case 5:
		x := &next.Sections[e.Of]
		if hasDead(l, s, e.Of) {
			code = 3
		} else if x.Last == 1 {
			code = 4
		} else {
			x.Count, x.Lost, x.Last, x.Sweep = 0, false, 0, true
		}
	}
	for i := range next.Sections {
		next.Sections[i].Told = toldPlain(l, next, i)
	}
	return impl.Done{Code: code, State: next}
}

// sidesPlain are where one comes from and where it goes: of Dir -1 From and To are exchanged.
func sidesPlain(l impl.Layout, e impl.Event) (from, to int) {
	from, to = l.Counters[e.Of].From, l.Counters[e.Of].To
	if e.Dir == -1 {
		from, to = to, from
	}
	return from, to
}

func countPlain(x *impl.Section, way int) {
	x.Count = max(-1000000, min(1000000, x.Count+way))
	x.Last = way
	x.Lost = x.Lost || x.Count < 0
	x.Sweep = x.Sweep && !(x.Count == 0 && way == -1)
}

func doPlain(l impl.Layout, s impl.State, e impl.Event) impl.Done {
	if impl.LayoutOk(l) != 0 || !statePlain(l, s) || !eventPlain(l, e) {
		return impl.Done{Code: 1}
	}
	return stepPlain(l, s, e)
}

// passCase is what a section becomes that an axle leaves or comes into.
type passCase struct {
	before, in, out impl.Section
}

func passCases() map[string]passCase {
	return map[string]passCase{
		"free, nothing yet":        {impl.Section{}, impl.Section{Told: 1, Count: 1, Last: 1}, impl.Section{Told: 1, Count: -1, Lost: true, Last: -1}},
		"free, one left":           {impl.Section{Last: -1}, impl.Section{Told: 1, Count: 1, Last: 1}, impl.Section{Told: 1, Count: -1, Lost: true, Last: -1}},
		"one in it":                {impl.Section{Told: 1, Count: 1, Last: 1}, impl.Section{Told: 1, Count: 2, Last: 1}, impl.Section{Last: -1}},
		"two in it":                {impl.Section{Told: 1, Count: 2, Last: -1}, impl.Section{Told: 1, Count: 3, Last: 1}, impl.Section{Told: 1, Count: 1, Last: -1}},
		"lost":                     {impl.Section{Told: 1, Lost: true}, impl.Section{Told: 1, Count: 1, Lost: true, Last: 1}, impl.Section{Told: 1, Count: -1, Lost: true, Last: -1}},
		"lost, one in it":          {impl.Section{Told: 1, Count: 1, Lost: true, Last: 1}, impl.Section{Told: 1, Count: 2, Lost: true, Last: 1}, impl.Section{Told: 1, Lost: true, Last: -1}},
		"lost, -1":                 {impl.Section{Told: 1, Count: -1, Lost: true, Last: -1}, impl.Section{Told: 1, Lost: true, Last: 1}, impl.Section{Told: 1, Count: -2, Lost: true, Last: -1}},
		"swept for":                {impl.Section{Told: 2, Sweep: true}, impl.Section{Told: 2, Count: 1, Sweep: true, Last: 1}, impl.Section{Told: 1, Count: -1, Lost: true, Sweep: true, Last: -1}},
		"swept for, one in it":     {impl.Section{Told: 2, Count: 1, Sweep: true, Last: 1}, impl.Section{Told: 2, Count: 2, Sweep: true, Last: 1}, impl.Section{Last: -1}},
		"swept for, two in it":     {impl.Section{Told: 2, Count: 2, Sweep: true, Last: 1}, impl.Section{Told: 2, Count: 3, Sweep: true, Last: 1}, impl.Section{Told: 2, Count: 1, Sweep: true, Last: -1}},
		"swept for, lost, one in":  {impl.Section{Told: 1, Count: 1, Lost: true, Sweep: true, Last: 1}, impl.Section{Told: 1, Count: 2, Lost: true, Sweep: true, Last: 1}, impl.Section{Told: 1, Lost: true, Last: -1}},
		"swept for, lost, -1":      {impl.Section{Told: 1, Count: -1, Lost: true, Sweep: true, Last: -1}, impl.Section{Told: 1, Lost: true, Sweep: true, Last: 1}, impl.Section{Told: 1, Count: -2, Lost: true, Sweep: true, Last: -1}},
		"as many as can be":        {impl.Section{Told: 1, Count: 1000000, Last: -1}, impl.Section{Told: 1, Count: 1000000, Last: 1}, impl.Section{Told: 1, Count: 999999, Last: -1}},
		"one below that":           {impl.Section{Told: 1, Count: 999999, Last: -1}, impl.Section{Told: 1, Count: 1000000, Last: 1}, impl.Section{Told: 1, Count: 999998, Last: -1}},
		"as few as can be":         {impl.Section{Told: 1, Count: -1000000, Lost: true, Last: 1}, impl.Section{Told: 1, Count: -999999, Lost: true, Last: 1}, impl.Section{Told: 1, Count: -1000000, Lost: true, Last: -1}},
		"one above that":           {impl.Section{Told: 1, Count: -999999, Lost: true, Last: 1}, impl.Section{Told: 1, Count: -999998, Lost: true, Last: 1}, impl.Section{Told: 1, Count: -1000000, Lost: true, Last: -1}},
		"swept for, as many as":    {impl.Section{Told: 2, Count: 1000000, Sweep: true, Last: 1}, impl.Section{Told: 2, Count: 1000000, Sweep: true, Last: 1}, impl.Section{Told: 2, Count: 999999, Sweep: true, Last: -1}},
		"free by one in (Last 1)":  {impl.Section{Last: 1}, impl.Section{Told: 1, Count: 1, Last: 1}, impl.Section{Told: 1, Count: -1, Lost: true, Last: -1}},
		"swept for, 0 by one in":   {impl.Section{Told: 2, Sweep: true, Last: 1}, impl.Section{Told: 2, Count: 1, Sweep: true, Last: 1}, impl.Section{Told: 1, Count: -1, Lost: true, Sweep: true, Last: -1}},
		"swept for, lost and left": {impl.Section{Told: 1, Lost: true, Sweep: true, Last: -1}, impl.Section{Told: 1, Count: 1, Lost: true, Sweep: true, Last: 1}, impl.Section{Told: 1, Count: -1, Lost: true, Sweep: true, Last: -1}},
	}
}

// pair is two sections and a bystander; counter 0 goes from 0 to 1, 1 from 1 to outside, 2 from outside to 0.
func pair() impl.Layout {
	return impl.Layout{Sections: 3, Counters: []impl.Counter{{From: 0, To: 1}, {From: 1, To: -1}, {From: -1, To: 0}}}
}

func pairState(first, second impl.Section, dead ...int) impl.State {
	return impl.State{Ok: true, Sections: []impl.Section{first, second, bystander}, Dead: deadAt(3, dead...)}
}

var bystander = impl.Section{Told: 2, Count: 7, Sweep: true, Last: 1}

// TestDoPass holds every kind of section at either side of a counter, in both Dirs.
func TestDoPass(t *testing.T) {
	for one, a := range passCases() {
		for other, b := range passCases() {
			s := pairState(a.before, b.before)
			what := one + " and " + other
			sameDone(t, what+", on", impl.Do(pair(), s, pass(0, 1)), impl.Done{State: pairState(a.out, b.in)})
			sameDone(t, what+", back", impl.Do(pair(), s, pass(0, -1)), impl.Done{State: pairState(a.in, b.out)})
			sameDone(t, what+", to outside", impl.Do(pair(), s, pass(1, 1)), impl.Done{State: pairState(a.before, b.out)})
			sameDone(t, what+", back from outside", impl.Do(pair(), s, pass(1, -1)), impl.Done{State: pairState(a.before, b.in)})
			sameDone(t, what+", from outside", impl.Do(pair(), s, pass(2, 1)), impl.Done{State: pairState(a.in, b.before)})
			sameDone(t, what+", back to outside", impl.Do(pair(), s, pass(2, -1)), impl.Done{State: pairState(a.out, b.before)})
		}
	}
}

func TestDoGhost(t *testing.T) {
	for one, a := range passCases() {
		for other, b := range passCases() {
			s := pairState(a.before, b.before)
			what := one + " and " + other
			sameDone(t, what+", on", impl.Do(pair(), s, ghost(0, 1)), impl.Done{State: pairState(a.before, b.in)})
			sameDone(t, what+", back", impl.Do(pair(), s, ghost(0, -1)), impl.Done{State: pairState(a.in, b.before)})
			sameDone(t, what+", to outside", impl.Do(pair(), s, ghost(1, 1)), impl.Done{State: s})
			sameDone(t, what+", back from outside", impl.Do(pair(), s, ghost(1, -1)), impl.Done{State: pairState(a.before, b.in)})
			sameDone(t, what+", from outside", impl.Do(pair(), s, ghost(2, 1)), impl.Done{State: pairState(a.in, b.before)})
			sameDone(t, what+", back to outside", impl.Do(pair(), s, ghost(2, -1)), impl.Done{State: s})
		}
	}
}

func TestDoPassAtDeadCounter(t *testing.T) {
	failed := impl.Section{Told: 3, Count: 1, Lost: true, Sweep: true, Last: 1}
	free, occupied := impl.Section{}, impl.Section{Told: 1, Count: 1, Last: 1}
	for _, op := range []int{1, 2} {
		for _, dir := range []int{1, -1} {
			for of, s := range []impl.State{pairState(failed, failed, 0), pairState(occupied, failed, 1), pairState(failed, free, 2)} {
				e := impl.Event{Op: op, Of: of, Dir: dir}
				sameDone(t, fmt.Sprint(e), impl.Do(pair(), s, e), impl.Done{Code: 2, State: s})
			}
		}
	}
}

// A section that has failed still counts at those of its counters that live.
func TestDoPassBesideDeadCounter(t *testing.T) {
	s := pairState(impl.Section{Told: 3, Lost: true}, impl.Section{Told: 1, Count: 2, Last: 1}, 2)
	sameDone(t, "in", impl.Do(pair(), s, pass(0, -1)),
		impl.Done{State: pairState(impl.Section{Told: 3, Count: 1, Lost: true, Last: 1}, impl.Section{Told: 1, Count: 1, Last: -1}, 2)})
	sameDone(t, "out", impl.Do(pair(), s, pass(0, 1)),
		impl.Done{State: pairState(impl.Section{Told: 3, Count: -1, Lost: true, Last: -1}, impl.Section{Told: 1, Count: 3, Last: 1}, 2)})
	sameDone(t, "ghost", impl.Do(pair(), s, ghost(0, -1)),
		impl.Done{State: pairState(impl.Section{Told: 3, Count: 1, Lost: true, Last: 1}, impl.Section{Told: 1, Count: 2, Last: 1}, 2)})
}

func TestDoDead(t *testing.T) {
	// what a section becomes when a counter around it dies: only Lost and Told change
	failed := func(x impl.Section) impl.Section {
		x.Told, x.Lost = 3, true
		return x
	}
	for one, a := range passCases() {
		for other, b := range passCases() {
			s := pairState(a.before, b.before)
			what := one + " and " + other
			sameDone(t, what+", between", impl.Do(pair(), s, dies(0)), impl.Done{State: pairState(failed(a.before), failed(b.before), 0)})
			sameDone(t, what+", to outside", impl.Do(pair(), s, dies(1)), impl.Done{State: pairState(a.before, failed(b.before), 1)})
			sameDone(t, what+", from outside", impl.Do(pair(), s, dies(2)), impl.Done{State: pairState(failed(a.before), b.before, 2)})
		}
	}
	s := pairState(impl.Section{Told: 3, Lost: true}, impl.Section{Told: 3, Count: 5, Lost: true}, 0)
	sameDone(t, "dead already", impl.Do(pair(), s, dies(0)), impl.Done{State: s})
}

func TestDoAlive(t *testing.T) {
	in := impl.Section{Told: 3, Count: 1, Lost: true, Sweep: true, Last: 1}
	lost := impl.Section{Told: 1, Count: 1, Lost: true, Sweep: true, Last: 1}
	below := impl.Section{Told: 3, Count: -2, Lost: true, Last: -1}
	lostBelow := impl.Section{Told: 1, Count: -2, Lost: true, Last: -1}
	sameDone(t, "the only one", impl.Do(pair(), pairState(in, below, 0), lives(0)), impl.Done{State: pairState(lost, lostBelow)})
	sameDone(t, "another is dead at one side", impl.Do(pair(), pairState(in, below, 0, 1), lives(0)), impl.Done{State: pairState(lost, below, 1)})
	sameDone(t, "another is dead at both", impl.Do(pair(), pairState(in, below, 0, 1, 2), lives(0)), impl.Done{State: pairState(in, below, 1, 2)})
	sameDone(t, "at outside", impl.Do(pair(), pairState(in, lostBelow, 2), lives(2)), impl.Done{State: pairState(lost, lostBelow)})
	for name, c := range passCases() {
		s := pairState(c.before, impl.Section{})
		sameDone(t, name+", not dead", impl.Do(pair(), s, lives(0)), impl.Done{State: s})
	}
}

func TestDoReset(t *testing.T) {
	for name, c := range passCases() {
		s := pairState(c.before, impl.Section{})
		want := impl.Done{State: pairState(impl.Section{Told: 2, Sweep: true}, impl.Section{})}
		if c.before.Last == 1 {
			want = impl.Done{Code: 4, State: s}
		}
		sameDone(t, name, impl.Do(pair(), s, reset(0)), want)
		s = pairState(impl.Section{Told: 1, Count: 3, Last: 1}, c.before)
		want = impl.Done{State: pairState(impl.Section{Told: 1, Count: 3, Last: 1}, impl.Section{Told: 2, Sweep: true})}
		if c.before.Last == 1 {
			want = impl.Done{Code: 4, State: s}
		}
		sameDone(t, name+", the second", impl.Do(pair(), s, reset(1)), want)
	}
}

func TestDoResetAtDeadCounter(t *testing.T) {
	for _, last := range []int{-1, 0, 1} { // with Last 1 both 3 and 4 hold, and 3 stands first
		for _, count := range []int{-1, 0, 1} {
			failed := impl.Section{Told: 3, Count: count, Lost: true, Last: last}
			for of, s := range []impl.State{pairState(failed, failed, 0), pairState(impl.Section{}, failed, 1), pairState(failed, impl.Section{}, 2)} {
				section := []int{0, 1, 0}[of]
				sameDone(t, fmt.Sprint("counter ", of), impl.Do(pair(), s, reset(section)), impl.Done{Code: 3, State: s})
			}
			s := pairState(failed, failed, 0)
			sameDone(t, "the other side", impl.Do(pair(), s, reset(1)), impl.Done{Code: 3, State: s})
			lost := failed
			lost.Told = 1
			s = pairState(lost, failed, 1)
			want := impl.Done{State: pairState(impl.Section{Told: 2, Sweep: true}, failed, 1)}
			if last == 1 {
				want = impl.Done{Code: 4, State: s}
			}
			sameDone(t, "a dead one that is not around it", impl.Do(pair(), s, reset(0)), want)
		}
	}
	bare := impl.State{Ok: true, Sections: []impl.Section{{Told: 1, Count: 1}}}
	sameDone(t, "no counter around it", impl.Do(impl.Layout{Sections: 1}, bare, reset(0)),
		impl.Done{State: impl.State{Ok: true, Sections: []impl.Section{{Told: 2, Sweep: true}}}})
}

func TestDoCode1(t *testing.T) {
	s := impl.Begin(row(2))
	for _, e := range []impl.Event{
		{}, {Op: 6}, {Op: -1}, {Op: 6, Dir: 1}, pass(0, 0), pass(0, 2), pass(-1, 1), pass(3, 1), ghost(0, 0), ghost(3, -1), ghost(-1, -1),
		dies(3), dies(-1), {Op: 3, Dir: 1}, lives(3), lives(-1), {Op: 4, Dir: -1}, reset(2), reset(-1), {Op: 5, Dir: 1},
	} {
		sameDone(t, fmt.Sprint(e), impl.Do(row(2), s, e), impl.Done{Code: 1})
	}
	right := []impl.Event{pass(0, 1), ghost(0, 1), dies(0), lives(0), reset(0)}
	for _, e := range right {
		for name, spoil := range map[string]func(s *impl.State){
			"not Ok":             func(s *impl.State) { s.Ok = false },
			"a section too few":  func(s *impl.State) { s.Sections = s.Sections[:1] },
			"a section too many": func(s *impl.State) { s.Sections = append(s.Sections, impl.Section{}) },
			"a counter too few":  func(s *impl.State) { s.Dead = s.Dead[:2] },
			"a counter too many": func(s *impl.State) { s.Dead = append(s.Dead, false) },
			"wrong Told":         func(s *impl.State) { s.Sections[1].Told = 1 },
			"wrong Last":         func(s *impl.State) { s.Sections[1].Last = 2 },
			"wrong Count":        func(s *impl.State) { s.Sections[1] = impl.Section{Told: 1, Count: 1000001} },
			"below 0, not Lost":  func(s *impl.State) { s.Sections[1] = impl.Section{Told: 1, Count: -1} },
			"dead, not Lost":     func(s *impl.State) { s.Dead[2], s.Sections[1] = true, impl.Section{Told: 3} },
			"swept, yet waits":   func(s *impl.State) { s.Sections[1] = impl.Section{Told: 2, Sweep: true, Last: -1} },
			"the zero value":     func(s *impl.State) { *s = impl.State{} },
		} {
			s := impl.Begin(row(2))
			spoil(&s)
			sameDone(t, fmt.Sprint(name, ", ", e), impl.Do(row(2), s, e), impl.Done{Code: 1})
		}
		for name, l := range wrongLayouts() {
			s := impl.State{Ok: true, Sections: make([]impl.Section, max(l.Sections, 0)), Dead: make([]bool, len(l.Counters))}
			sameDone(t, name, impl.Do(l, s, e), impl.Done{Code: 1})
			sameDone(t, name+", zero value", impl.Do(l, impl.State{}, e), impl.Done{Code: 1})
		}
	}
}

// anyEvent is one of the layout, or now and then none.
func anyEvent(n *numbers, l impl.Layout) impl.Event {
	e := impl.Event{Op: 1 + n.below(5), Dir: 1 - 2*n.below(2)}
	if e.Op > 2 {
		e.Dir = 0
	}
	e.Of = n.below(max(1, len(l.Counters)))
	if e.Op == 5 {
		e.Of = n.below(l.Sections)
	}
	switch n.below(40) {
	case 0:
		e.Op = n.below(8) - 1
	case 1:
		e.Of = n.below(12) - 1
	case 2:
		e.Dir = n.below(5) - 2
	}
	return e
}

func TestDoOfManyStates(t *testing.T) {
	n := numbers(19)
	codes := make([]int, 5)
	for try := 0; try < 20000; try++ {
		l := anyLayout(&n)
		s, e := anyState(&n, l), anyEvent(&n, l)
		got := impl.Do(l, s, e)
		sameDone(t, fmt.Sprintf("%v at %+v in %+v", e, s, l), got, doPlain(l, s, e))
		if t.Failed() {
			return
		}
		if got.Code != 1 && !impl.StateOk(l, got.State) {
			t.Fatalf("%v at %+v in %+v: no state", e, s, l)
		}
		codes[got.Code]++
	}
	for code, times := range codes {
		if times < 100 {
			t.Errorf("code %d came %d times only", code, times)
		}
	}
}

func TestDoArgumentsStay(t *testing.T) {
	for name, s := range states() {
		for _, e := range []impl.Event{pass(1, 1), pass(0, -1), ghost(1, -1), dies(1), lives(0), reset(0), reset(1), {}} {
			counters, shortCounters := roomy(row(2).Counters, impl.Counter{From: 77, To: 77})
			sections, shortSections := roomy(s.Sections, impl.Section{Told: 77, Count: 77, Lost: true, Last: 77})
			dead, shortDead := roomy(s.Dead, true)
			wantCounters, wantSections, wantDead := slices.Clone(counters), slices.Clone(sections), slices.Clone(dead)
			got := impl.Do(impl.Layout{Sections: 2, Counters: shortCounters}, impl.State{Ok: true, Sections: shortSections, Dead: shortDead}, e)
			sameList(t, name, counters, wantCounters)
			sameList(t, name, sections, wantSections)
			sameList(t, name, dead, wantDead)

			want := doPlain(row(2), s, e)
			for i := range sections {
				sections[i] = impl.Section{Told: 66}
			}
			for i := range dead {
				dead[i] = !dead[i]
			}
			sameDone(t, name+": the answer, when the argument is written into", got, want)
		}
	}
}

func TestDoIsNewMemory(t *testing.T) {
	for name, s := range states() {
		for _, e := range []impl.Event{pass(1, 1), pass(0, -1), ghost(1, -1), dies(1), lives(0), reset(0), reset(1), {}} {
			before := twin(s)
			spoilState(impl.Do(row(2), s, e).State)
			sameState(t, fmt.Sprint(name, ", ", e), s, before)
		}
	}
}

func TestDoSameAnswerTwice(t *testing.T) {
	n := numbers(23)
	for try := 0; try < 500; try++ {
		l := anyLayout(&n)
		s, e := anyState(&n, l), anyEvent(&n, l)
		sameDone(t, fmt.Sprint(e), impl.Do(l, s, e), impl.Do(l, s, e))
	}
}

func TestDoNeverPanics(t *testing.T) {
	for _, a := range wild {
		for _, b := range wild {
			for _, c := range wild {
				s := impl.Begin(row(2))
				e := impl.Event{Op: a, Of: b, Dir: c}
				sameDone(t, fmt.Sprint(e), impl.Do(row(2), s, e), doPlain(row(2), s, e))
				s.Sections[0] = impl.Section{Told: a, Count: b, Lost: true, Last: c}
				for _, e := range []impl.Event{pass(0, 1), pass(0, -1), ghost(1, -1), dies(0), lives(1), reset(0)} {
					sameDone(t, fmt.Sprint(e, s), impl.Do(row(2), s, e), doPlain(row(2), s, e))
					impl.Do(one(a, b, c), s, e)
				}
			}
		}
	}
	impl.Do(impl.Layout{}, impl.State{}, impl.Event{})
}
