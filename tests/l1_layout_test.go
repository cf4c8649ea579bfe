package tests

import (
	"math"
	"slices"
	"strconv"
	"testing"

	"loop.example/treadle/impl"
)

func TestLimitsAreTheDocuments(t *testing.T) {
	sameList(t, "limits", []int{impl.MaxSections, impl.MaxCounters, impl.MaxAxles, impl.MaxFar}, []int{60, 120, 200, 1000000})
}

func TestLayoutOkRight(t *testing.T) {
	full := many(120)
	full.Sections = 60
	for name, l := range map[string]impl.Layout{
		"no counters":         {Sections: 1},
		"an empty list":       {Sections: 1, Counters: []impl.Counter{}},
		"a row of one":        row(1),
		"a row of eight":      row(8),
		"a row of sixty":      row(60),
		"from outside":        one(1, -1, 0),
		"to outside":          one(1, 0, -1),
		"backwards":           one(3, 2, 0),
		"the last as From":    one(5, 4, -1),
		"the last as To":      one(5, -1, 4),
		"most sections":       {Sections: 60},
		"most counters":       many(120),
		"most of both":        full,
		"two at one place":    {Sections: 2, Counters: []impl.Counter{{From: 0, To: 1}, {From: 0, To: 1}, {From: 1, To: 0}}},
		"last of sixty, From": one(60, 59, -1),
		"last of sixty, To":   one(60, 58, 59),
	} {
		if got := impl.LayoutOk(l); got != 0 {
			t.Errorf("%s: %d", name, got)
		}
	}
}

func TestLayoutOkCode1(t *testing.T) {
	bad := many(121)
	bad.Counters[0] = impl.Counter{From: 0, To: 0}
	for name, l := range map[string]impl.Layout{
		"zero value":                  {},
		"no sections":                 row(0),
		"sections below 0":            {Sections: -1},
		"sections one too many":       {Sections: 61},
		"sections one too many, row":  row(61),
		"counters one too many":       many(121),
		"greatest":                    {Sections: math.MaxInt},
		"smallest":                    {Sections: math.MinInt},
		"both: sections and counter":  one(61, 0, 0),
		"both: no section, counter":   one(0, -1, 0),
		"both: counters and the same": bad,
	} {
		if got := impl.LayoutOk(l); got != 1 {
			t.Errorf("%s: %d", name, got)
		}
	}
}

func TestLayoutOkCode2(t *testing.T) {
	last := many(120)
	last.Counters[119] = impl.Counter{From: 0, To: 1}
	for name, l := range map[string]impl.Layout{
		"From one too small":    one(4, -2, 0),
		"To one too small":      one(4, 0, -2),
		"From one too great":    one(4, 4, 0),
		"To one too great":      one(4, 0, 4),
		"the same section":      one(4, 2, 2),
		"both outside":          one(4, -1, -1),
		"both wrong":            one(4, 4, 4),
		"From one above sixty":  one(60, 60, 0),
		"To one above sixty":    one(60, 0, 60),
		"From greatest":         one(4, math.MaxInt, 0),
		"To smallest":           one(4, 0, math.MinInt),
		"the last one of many":  last,
		"the second one is bad": {Sections: 2, Counters: []impl.Counter{{From: 0, To: 1}, {From: 1, To: 1}}},
	} {
		if got := impl.LayoutOk(l); got != 2 {
			t.Errorf("%s: %d", name, got)
		}
	}
}

func TestLayoutOkEachSide(t *testing.T) {
	const sections = 5
	for from := -3; from <= sections+1; from++ {
		for to := -3; to <= sections+1; to++ {
			want := 2
			if from >= -1 && from <= sections-1 && to >= -1 && to <= sections-1 && from != to {
				want = 0
			}
			if got := impl.LayoutOk(one(sections, from, to)); got != want {
				t.Errorf("%d to %d: got %d, want %d", from, to, got, want)
			}
		}
	}
}

func TestAround(t *testing.T) {
	l := impl.Layout{Sections: 4, Counters: []impl.Counter{
		{From: -1, To: 2}, {From: 0, To: 1}, {From: 1, To: 0}, {From: 2, To: 0}, {From: 1, To: -1}, {From: 0, To: 1},
	}}
	sameList(t, "either side", impl.Around(l, 0), []int{1, 2, 3, 5})
	sameList(t, "with one to outside", impl.Around(l, 1), []int{1, 2, 4, 5})
	sameList(t, "with one from outside", impl.Around(l, 2), []int{0, 3})
	sameList(t, "none there", impl.Around(l, 3), nil)
	sameList(t, "no counters at all", impl.Around(impl.Layout{Sections: 1}, 0), nil)
	sameList(t, "last of sixty", impl.Around(row(60), 59), []int{59, 60})

	var all []int
	for i := 0; i < 120; i++ {
		all = append(all, i)
	}
	sameList(t, "most counters", impl.Around(many(120), 0), all)
}

func TestAroundNoSuchSection(t *testing.T) {
	for _, section := range append([]int{-2, -1, 3, 4, 60}, wild...) {
		if section >= 0 && section < 3 {
			continue
		}
		sameList(t, strconv.Itoa(section), impl.Around(row(3), section), nil)
	}
}

func TestAroundLayoutNotRight(t *testing.T) {
	bad := row(3)
	bad.Counters = append(bad.Counters, impl.Counter{From: 1, To: 1})
	for name, l := range map[string]impl.Layout{
		"zero value":        {},
		"too many sections": row(61),
		"too many counters": many(121),
		"a wrong counter":   bad,
		"a side too great":  one(1, 0, 1),
	} {
		for _, section := range []int{-1, 0, 1, 2} {
			sameList(t, name, impl.Around(l, section), nil)
		}
	}
}

// Around is held against the sentence itself on layouts of every kind.
func TestAroundOfManyLayouts(t *testing.T) {
	n := numbers(7)
	for try := 0; try < 300; try++ {
		l := anyLayout(&n)
		for section := -2; section <= l.Sections+1; section++ {
			var want []int
			for i, c := range l.Counters {
				if section >= 0 && (c.From == section || c.To == section) {
					want = append(want, i)
				}
			}
			sameList(t, strconv.Itoa(try), impl.Around(l, section), want)
		}
	}
}

func anyLayout(n *numbers) impl.Layout {
	l := impl.Layout{Sections: 1 + n.below(9)}
	for i := n.below(15); i > 0; i-- {
		from := n.below(l.Sections+1) - 1
		to := n.below(l.Sections+1) - 1
		if from != to {
			l.Counters = append(l.Counters, impl.Counter{From: from, To: to})
		}
	}
	return l
}

func TestLayoutArgumentsStay(t *testing.T) {
	filler := impl.Counter{From: 77, To: 77}
	for _, sections := range []int{3, 0, 2} {
		l := row(3)
		before := append(slices.Clone(l.Counters), filler, filler, filler)
		long, short := roomy(l.Counters, filler)
		l = impl.Layout{Sections: sections, Counters: short}
		impl.LayoutOk(l)
		impl.Around(l, 1)
		sameList(t, "counters", long, before)
	}
}

func TestAroundIsNewMemory(t *testing.T) {
	l := row(3)
	first := impl.Around(l, 1)
	second := impl.Around(l, 1)
	for i := range first {
		first[i] = -5
	}
	_ = append(first[:0], -6, -6, -6)
	sameList(t, "an answer beside one that was written into", second, []int{1, 2})
	sameList(t, "an answer behind one that was written into", impl.Around(l, 1), []int{1, 2})
	sameList(t, "another section's", impl.Around(l, 2), []int{2, 3})
	sameList(t, "the layout", l.Counters, row(3).Counters)
}

func TestLayoutNeverPanics(t *testing.T) {
	for _, a := range wild {
		for _, b := range wild {
			for _, c := range wild {
				l := one(a, b, c)
				right := a == 1 && (b == -1 && c == 0 || b == 0 && c == -1)
				right = right || a == 2 && b >= -1 && b <= 1 && c >= -1 && c <= 1 && b != c
				if code := impl.LayoutOk(l); (code == 0) != right {
					t.Errorf("%v: %d", l, code)
				}
				for _, section := range wild {
					if got := impl.Around(l, section); !right && len(got) != 0 {
						t.Errorf("%v at %d: %v", l, section, got)
					}
				}
			}
		}
	}
}
