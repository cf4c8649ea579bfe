package tests

import (
	"fmt"
	"slices"
	"strings"
	"testing"

	"loop.example/treadle/impl"
)

// linePlain is the document's sentence on a line, for an event that is one.
func linePlain(e impl.Event) string {
	line := fmt.Sprintf("%s %d", []string{"", "pass", "ghost", "dead", "alive", "reset"}[e.Op], e.Of)
	return line + map[int]string{1: " +", -1: " -", 0: ""}[e.Dir] + "\n"
}

// writePlain is the document's chapter on what is written, for a right layout.
func writePlain(l impl.Layout, events []impl.Event) string {
	text := ""
	for _, e := range events {
		if !eventPlain(l, e) {
			return ""
		}
		text += linePlain(e)
	}
	if len(events) > 2000 || len(text) > 20000 {
		return ""
	}
	return text
}

// fullLayout has as much of everything as there can be.
func fullLayout() impl.Layout {
	l := many(120)
	l.Sections = 60
	return l
}

// eventsOnly leaves out what is none in the layout.
func eventsOnly(l impl.Layout, events []impl.Event) []impl.Event {
	return slices.DeleteFunc(slices.Clone(events), func(e impl.Event) bool { return !eventPlain(l, e) })
}

// spacious is a layout that now and then has numbers of more than one digit.
func spacious(n *numbers) impl.Layout {
	switch n.below(5) {
	case 0:
		return fullLayout()
	case 1:
		return row(1 + n.below(60))
	}
	return anyLayout(n)
}

func times(e impl.Event, many int) []impl.Event {
	return slices.Repeat([]impl.Event{e}, many)
}

func TestTextLimitIsTheDocuments(t *testing.T) {
	sameList(t, "limits", []int{impl.MaxText}, []int{20000})
}

func TestWriteEventsEachKind(t *testing.T) {
	for _, c := range []struct {
		e    impl.Event
		want string
	}{
		{pass(0, 1), "pass 0 +\n"}, {pass(1, -1), "pass 1 -\n"},
		{ghost(2, 1), "ghost 2 +\n"}, {ghost(9, -1), "ghost 9 -\n"},
		{dies(10), "dead 10\n"}, {lives(99), "alive 99\n"},
		{reset(0), "reset 0\n"}, {reset(59), "reset 59\n"},
		{pass(100, 1), "pass 100 +\n"}, {ghost(119, -1), "ghost 119 -\n"}, {dies(0), "dead 0\n"}, {lives(0), "alive 0\n"},
	} {
		if got := impl.WriteEvents(fullLayout(), []impl.Event{c.e}); got != c.want {
			t.Errorf("%v: %q", c.e, got)
		}
	}
	all := []impl.Event{pass(0, 1), pass(2, -1), ghost(1, 1), ghost(1, -1), dies(2), lives(2), reset(1)}
	if got := impl.WriteEvents(row(2), all); got != "pass 0 +\npass 2 -\nghost 1 +\nghost 1 -\ndead 2\nalive 2\nreset 1\n" {
		t.Errorf("%q", got)
	}
}

func TestWriteEventsOfNothing(t *testing.T) {
	for _, events := range [][]impl.Event{nil, {}} {
		if got := impl.WriteEvents(row(2), events); got != "" {
			t.Errorf("%q", got)
		}
	}
	for name, l := range wrongLayouts() {
		for _, events := range [][]impl.Event{nil, passes(0), {ghost(0, 1)}, {dies(0)}, {lives(0)}, {reset(0)}, {{}}} {
			if got := impl.WriteEvents(l, events); got != "" {
				t.Errorf("%s: %q", name, got)
			}
		}
	}
}

// One event that is none takes the whole text with it, wherever it stands.
func TestWriteEventsWithOneThatIsNone(t *testing.T) {
	for _, none := range []impl.Event{
		{}, pass(0, 0), pass(3, 1), pass(-1, 1), pass(0, 2), ghost(0, 0), ghost(3, -1),
		{Op: 3, Of: 0, Dir: 1}, dies(3), lives(-1), {Op: 4, Of: 0, Dir: -1}, reset(2), reset(-1), {Op: 5, Of: 0, Dir: 1}, {Op: 6}, {Op: -1, Dir: 1},
	} {
		for at := 0; at <= 3; at++ {
			if got := impl.WriteEvents(row(2), slices.Insert(passes(0, 1, 2), at, none)); got != "" {
				t.Errorf("%v at %d: %q", none, at, got)
			}
		}
	}
}

func TestWriteEventsMostEvents(t *testing.T) {
	for _, e := range []impl.Event{dies(0), pass(0, 1), reset(1)} {
		if got := impl.WriteEvents(row(2), times(e, 2000)); got != strings.Repeat(linePlain(e), 2000) {
			t.Errorf("2000 of %v: %d bytes", e, len(got))
		}
		if got := impl.WriteEvents(row(2), times(e, 2001)); got != "" {
			t.Errorf("2001 of %v: %d bytes", e, len(got))
		}
	}
}

func TestWriteEventsMostBytes(t *testing.T) {
	l := fullLayout()
	both := times(pass(10, 1), 2000)   // 10 bytes each
	most := times(ghost(100, 1), 1666) // 12 bytes each, 8 fewer than can be
	for _, c := range []struct {
		what   string
		events []impl.Event
		bytes  int
	}{
		{"just as many, of as many events as can be", both, 20000},
		{"one more", append(both[:1999:1999], pass(100, 1)), 20001},
		{"one less", append(both[:1999:1999], pass(1, 1)), 19999},
		{"fewer events, one less", append(most[:1666:1666], dies(0)), 19999},
		{"fewer events, just as many", append(most[:1666:1666], lives(0)), 20000},
		{"fewer events, one more", append(most[:1666:1666], pass(0, 1)), 20001},
		{"fewer events, too many by the one ahead of the last", append(most[:1666:1666], pass(0, 1), dies(0)), 20008},
		{"as long as can be", times(ghost(119, -1), 2000), 24000},
	} {
		want := ""
		for _, e := range c.events {
			want += linePlain(e)
		}
		if len(want) != c.bytes {
			t.Fatalf("%s: the test itself has %d bytes", c.what, len(want))
		}
		if c.bytes > 20000 {
			want = ""
		}
		if got := impl.WriteEvents(l, c.events); got != want {
			t.Errorf("%s: %d bytes, want %d", c.what, len(got), len(want))
		}
	}
}

func TestWriteEventsOfManyEvents(t *testing.T) {
	n := numbers(71)
	written, nothing := 0, 0
	for try := 0; try < 3000; try++ {
		l := spacious(&n)
		events := anyEvents(&n, l, 20)
		if try%2 == 0 {
			events = eventsOnly(l, events)
		}
		got := impl.WriteEvents(l, events)
		if got != writePlain(l, events) {
			t.Fatalf("%v in %+v: %q", events, l, got)
		}
		if got == "" {
			nothing++
		} else {
			written++
		}
	}
	if written < 500 || nothing < 100 {
		t.Error("drawn too few of a kind:", written, nothing)
	}
}

func TestWriteEventsNeverPanics(t *testing.T) {
	for _, a := range wild {
		for _, b := range wild {
			for _, c := range wild {
				for _, e := range []impl.Event{{Op: a, Of: b, Dir: c}, {Op: 1, Of: b, Dir: c}, {Op: 5, Of: b}} {
					if got := impl.WriteEvents(row(2), []impl.Event{e}); got != writePlain(row(2), []impl.Event{e}) {
						t.Errorf("%v: %q", e, got)
					}
					impl.WriteEvents(one(a, b, c), []impl.Event{e})
				}
			}
		}
	}
}
