package tests

import (
	"math"
	"reflect"
	"slices"
	"testing"

	"loop.example/treadle/impl"
)

// sameState takes an empty list and nil as the same.
func sameState(t *testing.T, what string, got, want impl.State) {
	t.Helper()
	if got.Ok != want.Ok || !slices.Equal(got.Sections, want.Sections) || !slices.Equal(got.Dead, want.Dead) {
		t.Errorf("%s:\n got %+v\nwant %+v", what, got, want)
	}
}

func sameDone(t *testing.T, what string, got, want impl.Done) {
	t.Helper()
	if got.Code != want.Code {
		t.Errorf("%s: code %d, want %d", what, got.Code, want.Code)
	}
	sameState(t, what, got.State, want.State)
}

func twin(s impl.State) impl.State {
	return impl.State{Ok: s.Ok, Sections: slices.Clone(s.Sections), Dead: slices.Clone(s.Dead)}
}

// deadAt tells of each counter whether it is one of these.
func deadAt(counters int, dead ...int) []bool {
	list := make([]bool, counters)
	for _, d := range dead {
		list[d] = true
	}
	return list
}

func hasDead(l impl.Layout, s impl.State, section int) bool {
	for i, c := range l.Counters {
		if (c.From == section || c.To == section) && s.Dead[i] {
			return true
		}
	}
	return false
}

// toldPlain is the document's sentence on what is told.
func toldPlain(l impl.Layout, s impl.State, section int) int {
	x := s.Sections[section]
	if hasDead(l, s, section) {
		return 3
	}
	if x.Lost {
		return 1
	}
	if x.Sweep {
		return 2
	}
	if x.Count != 0 {
		return 1
	}
	return 0
}

// statePlain is the document's sentence on states, for a right layout.
func statePlain(l impl.Layout, s impl.State) bool {
	if !s.Ok || len(s.Sections) != l.Sections || len(s.Dead) != len(l.Counters) {
		return false
	}
	for i, x := range s.Sections {
		if x.Count < -1000000 || x.Count > 1000000 {
			return false
		}
		if x.Last != -1 && x.Last != 0 && x.Last != 1 {
			return false
		}
		if x.Told != toldPlain(l, s, i) {
			return false
		}
		if (x.Count < 0 || hasDead(l, s, i)) && !x.Lost {
			return false
		}
		if x.Sweep && x.Count == 0 && x.Last == -1 && !x.Lost {
			return false
		}
	}
	return true
}

func TestBegin(t *testing.T) {
	full := many(120)
	full.Sections = 60
	for name, l := range map[string]impl.Layout{
		"a row of two": row(2), "a row of sixty": row(60), "no counters": {Sections: 3}, "many counters": many(120), "most of both": full, "few counters": one(9, 8, 0),
	} {
		got := impl.Begin(l)
		sameState(t, name, got, impl.State{Ok: true, Sections: make([]impl.Section, l.Sections), Dead: make([]bool, len(l.Counters))})
		if !impl.StateOk(l, got) {
			t.Errorf("%s: the beginning is no state", name)
		}
	}
	for name, l := range wrongLayouts() {
		sameState(t, name, impl.Begin(l), impl.State{})
	}
}

// states are right ones of a row of two sections (counters: outside to 0, 0 to 1, 1 to outside), their first section as it is named.
func states() map[string]impl.State {
	two := func(first, second impl.Section, dead ...int) impl.State {
		return impl.State{Ok: true, Sections: []impl.Section{first, second}, Dead: deadAt(3, dead...)}
	}
	free := impl.Section{}
	failed := impl.Section{Told: 3, Lost: true}
	return map[string]impl.State{
		"free":                     two(free, free),
		"free, left":               two(impl.Section{Last: -1}, free),
		"free by one in":           two(impl.Section{Last: 1}, free),
		"occupied":                 two(impl.Section{Told: 1, Count: 2, Last: 1}, free),
		"occupied, one left":       two(impl.Section{Told: 1, Count: 2, Last: -1}, free),
		"occupied most":            two(impl.Section{Told: 1, Count: 1000000, Last: 1}, free),
		"lost":                     two(impl.Section{Told: 1, Lost: true}, free),
		"lost, some in":            two(impl.Section{Told: 1, Count: 3, Lost: true, Last: 1}, free),
		"lost, below 0":            two(impl.Section{Told: 1, Count: -1, Lost: true, Last: -1}, free),
		"lost, least":              two(impl.Section{Told: 1, Count: -1000000, Lost: true, Last: -1}, free),
		"swept for":                two(impl.Section{Told: 2, Sweep: true}, free),
		"swept for, one in":        two(impl.Section{Told: 2, Count: 1, Sweep: true, Last: 1}, free),
		"swept for, 0 by one in":   two(impl.Section{Told: 2, Sweep: true, Last: 1}, free),
		"swept for, one left":      two(impl.Section{Told: 2, Count: 1, Sweep: true, Last: -1}, free),
		"swept for, lost":          two(impl.Section{Told: 1, Lost: true, Sweep: true}, free),
		"swept for, lost, left":    two(impl.Section{Told: 1, Lost: true, Sweep: true, Last: -1}, free),
		"swept for, lost, below 0": two(impl.Section{Told: 1, Count: -2, Lost: true, Sweep: true, Last: -1}, free),
		"failed":                   two(failed, free, 0),
		"failed, both":             two(failed, failed, 1),
		"failed, the other":        two(free, failed, 2),
		"failed, all dead":         two(failed, failed, 0, 1, 2),
		"failed, some in":          two(impl.Section{Told: 3, Count: 4, Lost: true, Last: 1}, free, 0),
		"failed, below 0":          two(impl.Section{Told: 3, Count: -4, Lost: true, Last: -1}, free, 0),
		"failed, swept for":        two(impl.Section{Told: 3, Lost: true, Sweep: true, Last: 1}, free, 0),
	}
}

func TestStateOkRight(t *testing.T) {
	for name, s := range states() {
		if !impl.StateOk(row(2), s) {
			t.Errorf("%s: %+v", name, s)
		}
	}
	bare := impl.State{Ok: true, Sections: []impl.Section{{Told: 1, Count: 5}}}
	if !impl.StateOk(impl.Layout{Sections: 1}, bare) {
		t.Error("no counters, Dead nil")
	}
	bare.Dead = []bool{}
	if !impl.StateOk(impl.Layout{Sections: 1}, bare) {
		t.Error("no counters, Dead empty")
	}
}

// TestStateOkSpoilt breaks one clause at a time, in the first section and in the last.
func TestStateOkSpoilt(t *testing.T) {
	for name, spoil := range map[string]func(s *impl.State, x *impl.Section){
		"not Ok":              func(s *impl.State, x *impl.Section) { s.Ok = false },
		"a section too few":   func(s *impl.State, x *impl.Section) { s.Sections = s.Sections[:1] },
		"a section too many":  func(s *impl.State, x *impl.Section) { s.Sections = append(s.Sections, impl.Section{}) },
		"no sections":         func(s *impl.State, x *impl.Section) { s.Sections = nil },
		"a counter too few":   func(s *impl.State, x *impl.Section) { s.Dead = s.Dead[:2] },
		"a counter too many":  func(s *impl.State, x *impl.Section) { s.Dead = append(s.Dead, false) },
		"no counters":         func(s *impl.State, x *impl.Section) { s.Dead = nil },
		"Count too great":     func(s *impl.State, x *impl.Section) { *x = impl.Section{Told: 1, Count: 1000001, Last: 1} },
		"Count greatest":      func(s *impl.State, x *impl.Section) { *x = impl.Section{Told: 1, Count: math.MaxInt, Last: 1} },
		"Count too small":     func(s *impl.State, x *impl.Section) { *x = impl.Section{Told: 1, Count: -1000001, Lost: true} },
		"Count smallest":      func(s *impl.State, x *impl.Section) { *x = impl.Section{Told: 1, Count: math.MinInt, Lost: true} },
		"Last 2":              func(s *impl.State, x *impl.Section) { x.Last = 2 },
		"Last -2":             func(s *impl.State, x *impl.Section) { x.Last = -2 },
		"Last greatest":       func(s *impl.State, x *impl.Section) { x.Last = math.MaxInt },
		"Last smallest":       func(s *impl.State, x *impl.Section) { x.Last = math.MinInt },
		"below 0, not Lost":   func(s *impl.State, x *impl.Section) { *x = impl.Section{Told: 1, Count: -1, Last: -1} },
		"below 0, swept for":  func(s *impl.State, x *impl.Section) { *x = impl.Section{Told: 2, Count: -1, Sweep: true, Last: -1} },
		"swept, yet waits":    func(s *impl.State, x *impl.Section) { *x = impl.Section{Told: 2, Sweep: true, Last: -1} },
		"free told occupied":  func(s *impl.State, x *impl.Section) { x.Told = 1 },
		"free told swept for": func(s *impl.State, x *impl.Section) { x.Told = 2 },
		"free told failed":    func(s *impl.State, x *impl.Section) { x.Told = 3 },
		"Told 4":              func(s *impl.State, x *impl.Section) { x.Told = 4 },
		"Told -1":             func(s *impl.State, x *impl.Section) { x.Told = -1 },
		"occupied told free":  func(s *impl.State, x *impl.Section) { *x = impl.Section{Count: 1, Last: 1} },
		"lost told free":      func(s *impl.State, x *impl.Section) { *x = impl.Section{Lost: true} },
		"swept for told free": func(s *impl.State, x *impl.Section) { *x = impl.Section{Sweep: true} },
		"swept for, occupied": func(s *impl.State, x *impl.Section) { *x = impl.Section{Told: 1, Count: 1, Sweep: true, Last: 1} },
		"lost told swept for": func(s *impl.State, x *impl.Section) { *x = impl.Section{Told: 2, Lost: true, Sweep: true} },
		"lost told failed":    func(s *impl.State, x *impl.Section) { *x = impl.Section{Told: 3, Lost: true} },
	} {
		for at := 0; at < 2; at++ {
			s := impl.Begin(row(2))
			spoil(&s, &s.Sections[at])
			if impl.StateOk(row(2), s) {
				t.Errorf("%s, section %d: %+v", name, at, s)
			}
		}
	}
}

func TestStateOkDeadAround(t *testing.T) {
	failed, lost := impl.Section{Told: 3, Lost: true}, impl.Section{Told: 1, Lost: true}
	notLost := impl.Section{Told: 3}
	for name, c := range map[string]struct {
		sections []impl.Section
		dead     []bool
		want     bool
	}{
		"both sides":                      {[]impl.Section{failed, failed}, deadAt(3, 1), true},
		"one side not Lost":               {[]impl.Section{notLost, failed}, deadAt(3, 1), false},
		"the other not Lost":              {[]impl.Section{failed, notLost}, deadAt(3, 1), false},
		"one side not Failed":             {[]impl.Section{lost, failed}, deadAt(3, 1), false},
		"the other not Failed":            {[]impl.Section{failed, lost}, deadAt(3, 1), false},
		"one side free":                   {[]impl.Section{failed, {}}, deadAt(3, 1), false},
		"from outside":                    {[]impl.Section{failed, {}}, deadAt(3, 0), true},
		"from outside, not Lost":          {[]impl.Section{notLost, {}}, deadAt(3, 0), false},
		"to outside":                      {[]impl.Section{{}, failed}, deadAt(3, 2), true},
		"to outside, not Lost":            {[]impl.Section{{}, notLost}, deadAt(3, 2), false},
		"to outside, the other is Failed": {[]impl.Section{failed, failed}, deadAt(3, 2), false},
		"none dead, Failed":               {[]impl.Section{failed, {}}, deadAt(3), false},
	} {
		if got := impl.StateOk(row(2), impl.State{Ok: true, Sections: c.sections, Dead: c.dead}); got != c.want {
			t.Errorf("%s: %v", name, got)
		}
	}
}

func TestStateOkWrongLayouts(t *testing.T) {
	for name, l := range wrongLayouts() {
		s := impl.State{Ok: true, Sections: make([]impl.Section, max(l.Sections, 0)), Dead: make([]bool, len(l.Counters))}
		if impl.StateOk(l, s) || impl.StateOk(l, impl.State{}) {
			t.Error(name)
		}
	}
	if impl.StateOk(row(2), impl.State{}) {
		t.Error("the zero value")
	}
}

// anyState is a state of the layout, right or nearly right.
func anyState(n *numbers, l impl.Layout) impl.State {
	s := impl.Begin(l)
	for i := range s.Dead {
		s.Dead[i] = n.below(6) == 0
	}
	counts := []int{0, 0, 0, 1, 1, 2, -1, 1000000, -1000000}
	for i := range s.Sections {
		x := impl.Section{Count: counts[n.below(len(counts))], Sweep: n.below(3) == 0, Last: n.below(3) - 1}
		x.Lost = n.below(4) == 0 || x.Count < 0 || hasDead(l, s, i) || x.Sweep && x.Count == 0 && x.Last == -1
		s.Sections[i] = x
		s.Sections[i].Told = toldPlain(l, s, i)
	}
	if n.below(2) == 0 {
		nearly(n, l, s)
	}
	return s
}

// nearly changes one thing, so that mostly it alone makes the state none.
func nearly(n *numbers, l impl.Layout, s impl.State) {
	at := n.below(len(s.Sections))
	x := &s.Sections[at]
	switch n.below(6) {
	case 0:
		x.Told = n.below(5) - 1
	case 1:
		x.Lost = !x.Lost
		x.Told = toldPlain(l, s, at)
	case 2:
		x.Sweep = !x.Sweep
		x.Told = toldPlain(l, s, at)
	case 3:
		x.Count = []int{1000001, -1000001, -1, 0}[n.below(4)]
		x.Told = toldPlain(l, s, at)
	case 4:
		x.Last = n.below(5) - 2
	case 5:
		if len(s.Dead) > 0 {
			d := n.below(len(s.Dead))
			s.Dead[d] = !s.Dead[d]
		}
	}
}

func TestStateOkOfManyStates(t *testing.T) {
	n := numbers(17)
	right := 0
	for try := 0; try < 20000; try++ {
		l := anyLayout(&n)
		s := anyState(&n, l)
		want := statePlain(l, s)
		if want {
			right++
		}
		if got := impl.StateOk(l, s); got != want {
			t.Fatalf("%+v in %+v: %v", s, l, got)
		}
	}
	if right < 2000 || right > 18000 {
		t.Error("too few of a kind to tell anything:", right)
	}
}

func TestStateOkArgumentsStay(t *testing.T) {
	for name, s := range states() {
		counters, shortCounters := roomy(row(2).Counters, impl.Counter{From: 77, To: 77})
		sections, shortSections := roomy(s.Sections, impl.Section{Told: 77, Count: 77, Lost: true, Last: 77})
		dead, shortDead := roomy(s.Dead, true)
		wantCounters, wantSections, wantDead := slices.Clone(counters), slices.Clone(sections), slices.Clone(dead)
		l := impl.Layout{Sections: 2, Counters: shortCounters}
		impl.Begin(l)
		impl.StateOk(l, impl.State{Ok: true, Sections: shortSections, Dead: shortDead})
		impl.EventOk(l, pass(1, 1))
		sameList(t, name, counters, wantCounters)
		sameList(t, name, sections, wantSections)
		sameList(t, name, dead, wantDead)
	}
}

func TestBeginIsNewMemory(t *testing.T) {
	l := row(3)
	first, second := impl.Begin(l), impl.Begin(l)
	want := twin(second)
	spoilState(first)
	sameState(t, "a beginning beside one that was written into", second, want)
	sameState(t, "a beginning behind one that was written into", impl.Begin(l), want)
	sameList(t, "the layout", l.Counters, row(3).Counters)
}

// spoilState writes all over a state's lists, into the room behind their ends too.
func spoilState(s impl.State) {
	sections, dead := s.Sections[:cap(s.Sections)], s.Dead[:cap(s.Dead)]
	for i := range sections {
		sections[i] = impl.Section{Told: 55, Count: 55, Lost: true, Sweep: true, Last: 55}
	}
	for i := range dead {
		dead[i] = !dead[i]
	}
}

func TestStatesNeverPanic(t *testing.T) {
	for _, a := range wild {
		for _, b := range wild {
			for _, c := range wild {
				s := impl.Begin(row(2))
				s.Sections[1] = impl.Section{Told: a, Count: b, Lost: true, Last: c}
				if got := impl.StateOk(row(2), s); got != statePlain(row(2), s) {
					t.Errorf("%+v: %v", s, got)
				}
				l := one(a, b, c)
				if got := impl.Begin(l); impl.LayoutOk(l) != 0 && !reflect.DeepEqual(got, impl.State{}) {
					t.Errorf("%+v: %+v", l, got)
				}
				impl.StateOk(l, s)
			}
		}
	}
}
