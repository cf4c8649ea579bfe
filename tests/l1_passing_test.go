package tests

import (
	"fmt"
	"slices"
	"testing"

	"loop.example/treadle/impl"
)

// way is all that Passing is asked with.
type way struct {
	l        impl.Layout
	posts    []impl.Post
	axles    []int
	from, to int
}

func (w way) passing() []impl.Event {
	return impl.Passing(w.l, w.posts, w.axles, w.from, w.to)
}

func pass(of, dir int) impl.Event {
	return impl.Event{Op: 1, Of: of, Dir: dir}
}

// passes are events in Dir 1.
func passes(of ...int) []impl.Event {
	var events []impl.Event
	for _, o := range of {
		events = append(events, pass(o, 1))
	}
	return events
}

// threePosts is a train of three axles on a way through a row of three sections.
func threePosts() way {
	return way{
		l:     row(3),
		posts: []impl.Post{{At: 10, Counter: 0, Dir: 1}, {At: 20, Counter: 1, Dir: 1}, {At: 35, Counter: 2, Dir: 1}},
		axles: []int{0, 3, 12},
		from:  0,
		to:    100,
	}
}

// sayAll is the sentence of the document told plainly: every axle at every post, then put in order.
func sayAll(w way) []impl.Event {
	type met struct{ front, axle, post int }
	var all []met
	for p := len(w.posts) - 1; p >= 0; p-- {
		for a := len(w.axles) - 1; a >= 0; a-- {
			if front := w.posts[p].At + w.axles[a]; front > w.from && front <= w.to {
				all = append(all, met{front, a, p})
			}
		}
	}
	slices.SortFunc(all, func(x, y met) int {
		return slices.Compare([]int{x.front, x.axle, x.post}, []int{y.front, y.axle, y.post})
	})
	var events []impl.Event
	for _, m := range all {
		events = append(events, pass(w.posts[m.post].Counter, w.posts[m.post].Dir))
	}
	return events
}

func TestPassingOrdinary(t *testing.T) {
	w := threePosts()
	// fronts 10 13 22 | 20 23 32 | 35 38 47
	sameList(t, "the whole way", w.passing(), passes(0, 0, 1, 0, 1, 1, 2, 2, 2))
	w.axles = []int{0}
	sameList(t, "one axle", w.passing(), passes(0, 1, 2))
	w.axles = []int{5}
	sameList(t, "one axle behind the front", w.passing(), passes(0, 1, 2))
	w.axles, w.posts = []int{0, 3, 12}, []impl.Post{{At: 7, Counter: 3, Dir: -1}}
	sameList(t, "one post", w.passing(), []impl.Event{pass(3, -1), pass(3, -1), pass(3, -1)})
}

func TestPassingDirs(t *testing.T) {
	w := threePosts()
	w.axles = []int{0, 11}
	w.posts = []impl.Post{{At: 10, Counter: 3, Dir: -1}, {At: 20, Counter: 2, Dir: 1}, {At: 30, Counter: 3, Dir: 1}}
	// fronts 10 21 | 20 31 | 30 41
	sameList(t, "both ways, one counter twice", w.passing(),
		[]impl.Event{pass(3, -1), pass(2, 1), pass(3, -1), pass(3, 1), pass(2, 1), pass(3, 1)})
}

func TestPassingAtOnePlace(t *testing.T) {
	w := threePosts()
	w.axles = []int{0, 10, 10, 20}
	w.posts = []impl.Post{{At: 10, Counter: 0, Dir: 1}, {At: 20, Counter: 1, Dir: 1}, {At: 30, Counter: 2, Dir: 1}}
	w.from, w.to = 29, 30
	sameList(t, "four axles at three posts", w.passing(), passes(2, 1, 1, 0))

	w.axles = []int{4, 4, 4}
	w.posts = []impl.Post{{At: 5, Counter: 2, Dir: -1}, {At: 5, Counter: 0, Dir: 1}, {At: 5, Counter: 1, Dir: 1}}
	w.from, w.to = 8, 9
	each := []impl.Event{pass(2, -1), pass(0, 1), pass(1, 1)}
	sameList(t, "axle by axle, each at all its posts", w.passing(), slices.Concat(each, each, each))

	w.axles = []int{0, 5}
	w.posts = []impl.Post{{At: 5, Counter: 3, Dir: 1}, {At: 5, Counter: 2, Dir: 1}, {At: 10, Counter: 1, Dir: 1}, {At: 10, Counter: 0, Dir: 1}}
	w.from, w.to = 0, 15
	sameList(t, "two posts at each of two places", w.passing(), passes(3, 2, 1, 0, 3, 2, 1, 0))
}

func TestPassingEdgesOfTheStretch(t *testing.T) {
	w := threePosts()
	w.axles = []int{0, 3}
	for _, c := range []struct {
		from, to int
		want     []impl.Event
	}{
		{0, 9, nil},
		{0, 10, passes(0)},
		{9, 10, passes(0)},
		{10, 12, nil},
		{10, 13, passes(0)},
		{12, 20, passes(0, 1)},
		{13, 20, passes(1)},
		{20, 22, nil},
		{35, 38, passes(2)},
		{38, 1000000, nil},
		{10, 10, nil},
		{0, 0, nil},
		{1000000, 1000000, nil},
	} {
		w.from, w.to = c.from, c.to
		sameList(t, fmt.Sprint(c.from, " to ", c.to), w.passing(), c.want)
	}
	w.posts = []impl.Post{{At: 0, Counter: 0, Dir: 1}, {At: 0, Counter: 1, Dir: 1}}
	w.axles = []int{0, 1}
	w.from, w.to = 0, 1
	sameList(t, "what stands at the beginning is not passed", w.passing(), passes(0, 1))
}

func TestPassingOfNothing(t *testing.T) {
	w := threePosts()
	w.posts = nil
	sameList(t, "no posts", w.passing(), nil)
	w = threePosts()
	w.axles = nil
	sameList(t, "no axles", w.passing(), nil)
	w = threePosts()
	w.from, w.to = 20, 20
	sameList(t, "from = to, where an axle passes", w.passing(), nil)
	sameList(t, "no counters", impl.Passing(impl.Layout{Sections: 1}, nil, []int{0}, 0, 10), nil)
}

// TestPassingRefused changes one thing at a time in a way that has events, so that nothing else can be why there are none.
func TestPassingRefused(t *testing.T) {
	for name, spoil := range map[string]func(w *way){
		"sections none":                   func(w *way) { w.l.Sections = 0 },
		"sections too many":               func(w *way) { w.l.Sections = 61 },
		"a wrong counter":                 func(w *way) { w.l.Counters[3] = impl.Counter{From: 2, To: 2} },
		"too many counters":               func(w *way) { w.l.Counters = append(w.l.Counters, many(117).Counters...) },
		"an At one below the one ahead":   func(w *way) { w.posts[1].At = 9 },
		"the last At below":               func(w *way) { w.posts[2].At = 19 },
		"At below 0":                      func(w *way) { w.posts[0].At = -1 },
		"At too far":                      func(w *way) { w.posts[2].At = 1000001 },
		"Counter below 0":                 func(w *way) { w.posts[1].Counter = -1 },
		"Counter one too great":           func(w *way) { w.posts[1].Counter = 4 },
		"Dir 0":                           func(w *way) { w.posts[2].Dir = 0 },
		"Dir 2":                           func(w *way) { w.posts[2].Dir = 2 },
		"Dir -2":                          func(w *way) { w.posts[2].Dir = -2 },
		"an axle one below the one ahead": func(w *way) { w.axles[1], w.axles[2] = 3, 2 },
		"the second axle below":           func(w *way) { w.axles[0], w.axles[1] = 4, 3 },
		"an axle below 0":                 func(w *way) { w.axles[0] = -1 },
		"an axle too far":                 func(w *way) { w.axles[2] = 1000001 },
		"from below 0":                    func(w *way) { w.from = -1 },
		"to too far":                      func(w *way) { w.to = 1000001 },
		"from and to too far":             func(w *way) { w.from, w.to = 1000001, 1000001 },
		"to below from":                   func(w *way) { w.from, w.to = 20, 19 },
		"to far below from":               func(w *way) { w.from, w.to = 100, 0 },
		"to below 0":                      func(w *way) { w.from, w.to = 0, -1 },
		"the last post of no use":         func(w *way) { w.to, w.posts[2].Dir = 34, 5 },
		"the last axle of no use":         func(w *way) { w.to, w.axles[2] = 15, 1000001 },
	} {
		w := threePosts()
		spoil(&w)
		sameList(t, name, w.passing(), nil)
	}
	if len(threePosts().passing()) != 9 {
		t.Error("the way that is spoilt has no events of its own")
	}
}

func TestPassingLimitsMet(t *testing.T) {
	for name, c := range map[string]struct {
		change func(w *way)
		events int
	}{
		"sections most":            {func(w *way) { w.l.Sections = 60 }, 9},
		"counters most":            {func(w *way) { w.l.Counters = append(w.l.Counters, many(116).Counters...) }, 9},
		"an At as the one ahead":   {func(w *way) { w.posts[1].At = 10 }, 9},
		"At 0":                     {func(w *way) { w.posts[0].At = 0 }, 8},
		"At farthest":              {func(w *way) { w.posts[2].At, w.to = 1000000, 1000000 }, 7},
		"Counter 0":                {func(w *way) { w.posts[1].Counter = 0 }, 9},
		"Counter last":             {func(w *way) { w.posts[1].Counter = 3 }, 9},
		"Dir -1":                   {func(w *way) { w.posts[1].Dir = -1 }, 9},
		"an axle as the one ahead": {func(w *way) { w.axles[1] = 0 }, 9},
		"an axle farthest":         {func(w *way) { w.axles[2], w.to = 1000000, 1000000 }, 6},
		"from 0, to farthest":      {func(w *way) { w.from, w.to = 0, 1000000 }, 9},
		"from = to farthest":       {func(w *way) { w.from, w.to = 1000000, 1000000 }, 0},
		"to one above from":        {func(w *way) { w.from, w.to = 19, 20 }, 1},
	} {
		w := threePosts()
		c.change(&w)
		got := w.passing()
		sameList(t, name, got, sayAll(w))
		if len(got) != c.events {
			t.Errorf("%s: %d events, want %d", name, len(got), c.events)
		}
	}
}

func TestPassingMostPostsAndAxles(t *testing.T) {
	for _, c := range []struct{ posts, axles, events int }{
		{120, 1, 120}, {121, 1, 0}, {1, 200, 200}, {1, 201, 0}, {120, 200, 24000}, {121, 200, 0}, {120, 201, 0}, {0, 201, 0}, {121, 0, 0},
	} {
		w := way{l: many(3), from: 0, to: 1000000}
		for i := 0; i < c.posts; i++ {
			w.posts = append(w.posts, impl.Post{At: 1 + i/2, Counter: i % 3, Dir: 1 - i%2*2})
		}
		for i := 0; i < c.axles; i++ {
			w.axles = append(w.axles, i/3)
		}
		got := w.passing()
		if len(got) != c.events {
			t.Errorf("%d posts, %d axles: %d events, want %d", c.posts, c.axles, len(got), c.events)
		}
		if c.events > 0 {
			sameList(t, fmt.Sprint(c.posts, " posts, ", c.axles, " axles"), got, sayAll(w))
		}
	}
}

// anyWay has few places, so that many axles and posts meet at one.
func anyWay(n *numbers) way {
	w := way{l: row(1 + n.below(8))}
	at := n.below(4)
	for i := n.below(8); i > 0; i-- {
		w.posts = append(w.posts, impl.Post{At: at, Counter: n.below(len(w.l.Counters)), Dir: 1 - 2*n.below(2)})
		at += n.below(5)
	}
	behind := n.below(3)
	for i := n.below(10); i > 0; i-- {
		w.axles = append(w.axles, behind)
		behind += n.below(4)
	}
	w.from = n.below(20)
	w.to = w.from + n.below(60)
	return w
}

func TestPassingOfManyWays(t *testing.T) {
	n := numbers(11)
	events := 0
	for try := 0; try < 3000; try++ {
		w := anyWay(&n)
		got := w.passing()
		events += len(got)
		sameList(t, fmt.Sprintf("%+v", w), got, sayAll(w))
	}
	if events < 3000 {
		t.Error("too few events to tell anything:", events)
	}
}

func TestPassingInTwoPieces(t *testing.T) {
	w := threePosts()
	whole := passes(0, 0, 1, 0, 1, 1, 2, 2, 2)
	for cut := 0; cut <= 100; cut++ { // at 10, 13, 20, 22 .. an axle passes
		first, second := w, w
		first.to, second.from = cut, cut
		sameList(t, fmt.Sprint("cut at ", cut), slices.Concat(first.passing(), second.passing()), whole)
	}
	first, second := w, w
	first.to, second.from = 22, 22
	sameList(t, "up to 22", first.passing(), passes(0, 0, 1, 0))
	sameList(t, "from 22 on", second.passing(), passes(1, 1, 2, 2, 2))
}

func TestPassingInTwoPiecesOfManyWays(t *testing.T) {
	n := numbers(13)
	for try := 0; try < 300; try++ {
		w := anyWay(&n)
		whole := w.passing()
		for cut := w.from; cut <= w.to; cut++ {
			first, second := w, w
			first.to, second.from = cut, cut
			sameList(t, fmt.Sprintf("%+v cut at %d", w, cut), slices.Concat(first.passing(), second.passing()), whole)
		}
	}
}

func TestPassingArgumentsStay(t *testing.T) {
	for _, to := range []int{100, -1} {
		w := threePosts()
		counters, shortCounters := roomy(w.l.Counters, impl.Counter{From: 77, To: 77})
		posts, shortPosts := roomy(w.posts, impl.Post{At: 77, Counter: 77, Dir: 77})
		axles, shortAxles := roomy(w.axles, 77)
		wantCounters, wantPosts, wantAxles := slices.Clone(counters), slices.Clone(posts), slices.Clone(axles)
		impl.Passing(impl.Layout{Sections: 3, Counters: shortCounters}, shortPosts, shortAxles, 0, to)
		sameList(t, "counters", counters, wantCounters)
		sameList(t, "posts", posts, wantPosts)
		sameList(t, "axles", axles, wantAxles)
	}
}

func TestPassingIsNewMemory(t *testing.T) {
	w := threePosts()
	first, second := w.passing(), w.passing()
	want := slices.Clone(second)
	for i := range first {
		first[i] = impl.Event{Op: 9, Of: 9, Dir: 9}
	}
	sameList(t, "an answer beside one that was written into", second, want)
	sameList(t, "an answer behind one that was written into", w.passing(), want)
}

func TestPassingNeverPanics(t *testing.T) {
	for _, a := range wild {
		for _, b := range wild {
			for name, w := range map[string]way{
				"from and to":   {row(2), []impl.Post{{At: 5, Counter: 0, Dir: 1}}, []int{0}, a, b},
				"axles":         {row(2), []impl.Post{{At: 5, Counter: 0, Dir: 1}}, []int{a, b}, 0, 1000000},
				"At":            {row(2), []impl.Post{{At: a, Counter: 0, Dir: 1}, {At: b, Counter: 0, Dir: 1}}, []int{0}, 0, 1000000},
				"At and axle":   {row(2), []impl.Post{{At: a, Counter: 0, Dir: 1}}, []int{b}, 0, 1000000},
				"Counter, Dir":  {row(2), []impl.Post{{At: 5, Counter: a, Dir: b}}, []int{0}, 0, 1000000},
				"the layout":    {one(1, a, b), []impl.Post{{At: 5, Counter: 0, Dir: 1}}, []int{0}, 0, 1000000},
				"sections, far": {impl.Layout{Sections: a, Counters: row(1).Counters}, []impl.Post{{At: 5, Counter: 0, Dir: 1}}, []int{b}, 0, 1000000},
			} {
				if got := w.passing(); len(got) > 0 {
					sameList(t, name, got, sayAll(w))
				}
			}
		}
	}
	impl.Passing(impl.Layout{}, nil, nil, 0, 0)
}
