package tests

import (
	"fmt"
	"reflect"
	"slices"
	"testing"

	"loop.example/treadle/impl"
)

// given is what a function may be asked with; each takes what it needs of it.
type given struct {
	l       impl.Layout
	section int
	posts   []impl.Post
	axles   []int
	from    int
	to      int
	s       impl.State
	e       impl.Event
	events  []impl.Event
	text    string
}

// functions are all that the document lists.
func functions() map[string]func(g given) any {
	return map[string]func(g given) any{
		"LayoutOk":    func(g given) any { return impl.LayoutOk(g.l) },
		"Around":      func(g given) any { return impl.Around(g.l, g.section) },
		"Passing":     func(g given) any { return impl.Passing(g.l, g.posts, g.axles, g.from, g.to) },
		"EventOk":     func(g given) any { return impl.EventOk(g.l, g.e) },
		"Begin":       func(g given) any { return impl.Begin(g.l) },
		"StateOk":     func(g given) any { return impl.StateOk(g.l, g.s) },
		"Do":          func(g given) any { return impl.Do(g.l, g.s, g.e) },
		"Run":         func(g given) any { return impl.Run(g.l, g.events) },
		"Truth":       func(g given) any { return impl.Truth(g.l, g.events) },
		"Honest":      func(g given) any { return impl.Honest(g.l, g.events) },
		"Gaps":        func(g given) any { return impl.Gaps(g.l, g.events) },
		"WriteEvents": func(g given) any { return impl.WriteEvents(g.l, g.events) },
		"ReadEvents":  func(g given) any { return impl.ReadEvents(g.l, g.text) },
		"Answer":      func(g given) any { return impl.Answer(g.l, g.text) },
	}
}

// anyGiven is mostly such that there is an answer: a layout or a list that is wrong comes now and then.
func anyGiven(n *numbers) given {
	w := anyWay(n)
	g := given{l: w.l, posts: w.posts, axles: w.axles, from: w.from, to: w.to}
	if n.below(2) == 0 {
		g.l = anyLayout(n) // a post may have no counter there
	}
	g.section = n.below(g.l.Sections+2) - 1
	g.s, g.e = anyState(n, g.l), anyEvent(n, g.l)
	switch n.below(3) {
	case 0:
		g.events = anyEvents(n, g.l, 30)
	case 1:
		g.events = eventsOnly(g.l, anyEvents(n, g.l, 30))
	default:
		g.events = truthfulEvents(n, g.l, 30)
	}
	g.text = writePlain(g.l, eventsOnly(g.l, anyEvents(n, g.l, 30)))
	if n.below(3) == 0 {
		g.text = spoilt(n, g.text)
	}
	switch n.below(12) {
	case 0:
		g.l.Sections = n.below(3) - 1
	case 1:
		slices.Reverse(g.axles)
	}
	return g
}

// elsewhere is the same in other memory, with room behind every list; all has that room too.
func (g given) elsewhere() (same, all given) {
	same, all = g, g
	all.l.Counters, same.l.Counters = roomy(g.l.Counters, impl.Counter{From: 77, To: 77})
	all.posts, same.posts = roomy(g.posts, impl.Post{At: 77, Counter: 77, Dir: 77})
	all.axles, same.axles = roomy(g.axles, 77)
	all.s.Sections, same.s.Sections = roomy(g.s.Sections, impl.Section{Told: 77, Count: 77, Last: 77})
	all.s.Dead, same.s.Dead = roomy(g.s.Dead, true)
	all.events, same.events = roomy(g.events, impl.Event{Op: 77, Of: 77, Dir: 77})
	return same, all
}

// spoil writes into all memory of an answer that can be reached.
func spoil(answer reflect.Value) {
	switch answer.Kind() {
	case reflect.Slice:
		for whole, i := answer.Slice(0, answer.Cap()), 0; i < answer.Cap(); i++ {
			spoil(whole.Index(i))
		}
	case reflect.Struct:
		for i := 0; i < answer.NumField(); i++ {
			spoil(answer.Field(i))
		}
	case reflect.Int:
		if answer.CanSet() {
			answer.SetInt(answer.Int() + 55)
		}
	case reflect.Bool:
		if answer.CanSet() {
			answer.SetBool(!answer.Bool())
		}
	}
}

// P10, and that an answer is new memory: what is written into one is seen in no argument and no other answer.
func TestArgumentsStayAndAnswersAreTheSame(t *testing.T) {
	n := numbers(89)
	for try := 0; try < 1500; try++ {
		g := anyGiven(&n)
		_, untouched := g.elsewhere()
		mine, mineAll := g.elsewhere()
		for name, ask := range functions() {
			what := fmt.Sprintf("%s of %+v", name, g)
			first, second := ask(mine), ask(mine)
			if !reflect.DeepEqual(mineAll, untouched) {
				t.Fatalf("%s: an argument was written into", what)
			}
			if !reflect.DeepEqual(first, second) {
				t.Fatalf("%s: %v, then %v", what, first, second)
			}
			spoil(reflect.ValueOf(first))
			if !reflect.DeepEqual(mineAll, untouched) {
				t.Fatalf("%s: the answer is memory of an argument", what)
			}
			if third := ask(g); !reflect.DeepEqual(second, third) {
				t.Fatalf("%s: %v, but of the same in other memory %v", what, second, third)
			}
		}
	}
}

// P10: what was asked in between is not to be seen.
func TestAnswersHangOnArgumentsAlone(t *testing.T) {
	n := numbers(97)
	var all []given
	for i := 0; i < 40; i++ {
		all = append(all, anyGiven(&n))
	}
	before := map[string][]any{}
	for _, g := range all {
		for name, ask := range functions() {
			before[name] = append(before[name], ask(g))
		}
	}
	for i := len(all) - 1; i >= 0; i-- {
		for name, ask := range functions() {
			if got := ask(all[i]); !reflect.DeepEqual(got, before[name][i]) {
				t.Errorf("%s of %+v: %v, then %v", name, all[i], before[name][i], got)
			}
		}
	}
}

// P10 where there is no answer: too much of something, and a layout that is not right.
func TestArgumentsStayBeyondTheLimits(t *testing.T) {
	most := given{l: row(2), events: times(pass(0, 1), 2000), axles: make([]int, 200), to: 1000000, s: impl.Begin(row(2)), e: pass(0, 1), text: writePlain(row(2), times(dies(0), 2000))}
	most.posts = slices.Repeat([]impl.Post{{At: 3, Counter: 1, Dir: 1}}, 120)
	over := most
	over.events, over.axles, over.posts = times(pass(0, 1), 2001), make([]int, 201), slices.Repeat(most.posts[:1], 121)
	over.text += "dead 0\n"
	all := []given{most, over, {}}
	for _, l := range wrongLayouts() {
		wrong := most
		wrong.l = l
		all = append(all, wrong)
	}
	for _, g := range all {
		mine, mineAll := g.elsewhere()
		_, untouched := g.elsewhere()
		for name, ask := range functions() {
			if first, second := ask(mine), ask(g); !reflect.DeepEqual(first, second) {
				t.Errorf("%s: two answers", name)
			}
			if !reflect.DeepEqual(mineAll, untouched) {
				t.Fatalf("%s: an argument was written into", name)
			}
		}
	}
}
