package tests

import (
	"fmt"
	"slices"
	"strings"
	"testing"

	"loop.example/treadle/impl"
)

// readPlain asks of each line whether it is that of one of all the events that a layout has.
func readPlain(l impl.Layout, text string) impl.Heard {
	if impl.LayoutOk(l) != 0 {
		return impl.Heard{Code: 1}
	}
	if len(text) > 20000 {
		return impl.Heard{Code: 2}
	}
	known := map[string]impl.Event{}
	for _, e := range allEvents(l) {
		known[linePlain(e)] = e
	}
	var events []impl.Event
	for i, line := range strings.SplitAfter(text, "\n") {
		if line == "" {
			break // behind the last newline
		}
		e, ok := known[line]
		if !ok || i == 2000 {
			return impl.Heard{Code: 3, Line: i + 1}
		}
		events = append(events, e)
	}
	return impl.Heard{Events: events}
}

func sameHeard(t *testing.T, what string, got, want impl.Heard) {
	t.Helper()
	if got.Code != want.Code || got.Line != want.Line || !slices.Equal(got.Events, want.Events) {
		t.Errorf("%s: got %v, want %v", what, got, want)
	}
}

// P9: events are read back from their text.
func TestReadEventsBack(t *testing.T) {
	all := []impl.Event{pass(0, 1), pass(2, -1), ghost(1, 1), ghost(1, -1), dies(2), lives(2), reset(1)}
	sameHeard(t, "each kind", impl.ReadEvents(row(2), "pass 0 +\npass 2 -\nghost 1 +\nghost 1 -\ndead 2\nalive 2\nreset 1\n"), impl.Heard{Events: all})
	for _, l := range []impl.Layout{row(1), row(60), many(120), fullLayout(), {Sections: 3}, one(11, 10, -1)} {
		for _, e := range allEvents(l) {
			text := impl.WriteEvents(l, []impl.Event{e})
			sameHeard(t, text, impl.ReadEvents(l, text), impl.Heard{Events: []impl.Event{e}})
		}
	}
}

func TestReadEventsBackOfManyEvents(t *testing.T) {
	n := numbers(73)
	lines := 0
	for try := 0; try < 3000; try++ {
		l := spacious(&n)
		events := eventsOnly(l, anyEvents(&n, l, 60))
		text := impl.WriteEvents(l, events)
		if len(events) > 0 && text == "" {
			t.Fatalf("%v in %+v: nothing written", events, l)
		}
		sameHeard(t, fmt.Sprintf("%q in %+v", text, l), impl.ReadEvents(l, text), impl.Heard{Events: events})
		if t.Failed() {
			return
		}
		lines += len(events)
	}
	if lines < 10000 {
		t.Error("drawn too few:", lines)
	}
}

func TestReadEventsEmptyText(t *testing.T) {
	for _, l := range []impl.Layout{row(2), {Sections: 1}, fullLayout()} {
		sameHeard(t, "empty", impl.ReadEvents(l, ""), impl.Heard{})
	}
}

// wrongLines are ones that no event of row(2) has.
var wrongLines = []string{
	"", " ", "  ", "+", "0", "\r", "\x00",
	"pass", "pass ", "pass 0", "pass 0 ", "pass  0 +", " pass 0 +", "pass 0  +", "pass 0 + ", "pass 0 +  ", "pass 0+", "pass0 +", "pass +", "pass + 0", "pass  +", "pass 0 + +", "pass 0 + 0", "pass 0 0 +",
	"pass 0 *", "pass 0 ++", "pass 0 +-", "pass 0 1", "pass 0 -1", "pass 0 0", "pass 0 p",
	"pass +0 +", "pass -0 +", "pass +1 +", "pass -1 +", "pass 00 +", "pass 01 -", "pass 002 +", "pass 0x1 +", "pass 1_0 +", "pass 1e0 +", "pass 1.0 +", "pass 0b1 +", "pass one +", "pass ١ +",
	"pass 3 +", "pass 3 -", "ghost 3 +", "dead 3", "alive 3", "reset 2", "reset 3", "reset -1", "dead -1",
	"pass 9223372036854775807 +", "pass 9223372036854775808 +", "pass 18446744073709551616 +", "pass 18446744073709551617 -", "dead 4294967296", "reset 340282366920938463463374607431768211456",
	"pass -9223372036854775808 +", "pass -9223372036854775809 +", "pass -18446744073709551616 +",
	"ghost 0", "ghost 0 ", "dead 0 +", "dead 0 -", "dead 0 ", "dead  0", "dead", "dead 0 0", "dead 0 *", "alive 0 p", "reset 1 .", "alive 0 +", "alive 0 -", "reset 0 +", "reset 0 -", "reset 0 ", "reset",
	"Pass 0 +", "PASS 0 +", "pas 0 +", "passs 0 +", "go 0 +", "1 0 +", "OPass 0 +", "ghosts 0 +", "die 0", "lives 0", "resets 0", "3 0", " 0", " 0 +",
	"pass\t0 +", "pass 0\t+", "pass 0 +\r", "pass 0 +\t", "dead 0\r", "dead 0\x00", "\ufeffpass 0 +", "pass\u00a00 +", "pass 0 \xff", "pass 0 ＋", "pass 0 −", "pass 0 +;dead 0", "pass 0 + dead 0", "# dead 0",
}

func TestReadEventsWrongLines(t *testing.T) {
	for _, line := range wrongLines {
		for ahead := 0; ahead <= 3; ahead++ {
			for behind, rest := range []string{"", "pass 0 +\n", "nothing\n\n", "pass 0 +"} {
				text := strings.Repeat("alive 1\n", ahead) + line + "\n" + rest
				sameHeard(t, fmt.Sprintf("%q at %d, %d", line, ahead+1, behind), impl.ReadEvents(row(2), text), impl.Heard{Code: 3, Line: ahead + 1})
			}
		}
	}
}

func TestReadEventsFirstWrongLine(t *testing.T) {
	for text, line := range map[string]int{
		"\n": 1, "\n\n": 1, "pass 0 +\n\n": 2, "\npass 0 +\n": 1, "pass 0 +\n\npass 0 +\n": 2,
		"pass 0 +\npass 3 +\npass 4 +\n": 2, "reset 2\npass 0 +": 1, "pass 0 +\ndead 1\ndead 1 +\ndead 3\n": 3,
		"pass 0\n+\n": 1, "pass\n0 +\n": 1, "dead\n 0\n": 1, "dead 0\n\r\n": 2, "dead 0\r\ndead 0\r\n": 1,
	} {
		sameHeard(t, fmt.Sprintf("%q", text), impl.ReadEvents(row(2), text), impl.Heard{Code: 3, Line: line})
	}
}

// Every beginning of a text that does not end with a newline has a last line that is none.
func TestReadEventsWithoutANewline(t *testing.T) {
	text := "pass 0 +\nghost 1 -\ndead 2\nalive 2\nreset 1\n"
	all := []impl.Event{pass(0, 1), ghost(1, -1), dies(2), lives(2), reset(1)}
	for end := 0; end <= len(text); end++ {
		lines := strings.Count(text[:end], "\n")
		want := impl.Heard{Code: 3, Line: lines + 1}
		if end == 0 || text[end-1] == '\n' {
			want = impl.Heard{Events: all[:lines]}
		}
		sameHeard(t, fmt.Sprintf("%q", text[:end]), impl.ReadEvents(row(2), text[:end]), want)
	}
}

func TestReadEventsOfTheLayout(t *testing.T) {
	// what is an event in one layout is none in another
	for _, c := range []struct {
		text string
		l    impl.Layout
		code int
	}{
		{"reset 1\n", row(2), 0}, {"reset 1\n", row(1), 3}, {"reset 1\n", many(9), 3}, {"reset 4\n", one(5, 0, -1), 0},
		{"dead 1\n", one(5, 0, -1), 3}, {"dead 8\n", many(9), 0}, {"alive 9\n", many(9), 3}, {"pass 0 +\n", impl.Layout{Sections: 5}, 3},
		{"pass 119 +\n", fullLayout(), 0}, {"pass 120 +\n", fullLayout(), 3}, {"reset 59\n", fullLayout(), 0}, {"reset 60\n", fullLayout(), 3},
	} {
		if got := impl.ReadEvents(c.l, c.text); got.Code != c.code {
			t.Errorf("%q in %+v: %v", c.text, c.l, got)
		}
		sameHeard(t, c.text, impl.ReadEvents(c.l, c.text), readPlain(c.l, c.text))
	}
}

// Code 1 stands ahead of 2, and 2 ahead of 3.
func TestReadEventsOrderOfCodes(t *testing.T) {
	texts := []string{"", "pass 0 +\n", "pass 0 +", "nothing\n", strings.Repeat("x", 20000), strings.Repeat("x", 20001), strings.Repeat("\n", 20001), strings.Repeat("pass 0 +\n", 3000)}
	for name, l := range wrongLayouts() {
		for _, text := range texts {
			sameHeard(t, name, impl.ReadEvents(l, text), impl.Heard{Code: 1})
		}
	}
	for _, text := range texts {
		sameHeard(t, fmt.Sprint(len(text), " bytes"), impl.ReadEvents(row(2), text), readPlain(row(2), text))
	}
	sameHeard(t, "wrong lines, too many bytes", impl.ReadEvents(row(2), strings.Repeat("\n", 20001)), impl.Heard{Code: 2})
	sameHeard(t, "wrong lines, just as many bytes", impl.ReadEvents(row(2), strings.Repeat("\n", 20000)), impl.Heard{Code: 3, Line: 1})
}

func TestReadEventsMostBytes(t *testing.T) {
	l := fullLayout()
	most := strings.Repeat("pass 10 +\n", 2000)
	sameHeard(t, "20000 bytes of 2000 lines", impl.ReadEvents(l, most), impl.Heard{Events: times(pass(10, 1), 2000)})
	sameHeard(t, "one more", impl.ReadEvents(l, most[:19990]+"pass 100 +\n"), impl.Heard{Code: 2})
	sameHeard(t, "one more behind", impl.ReadEvents(l, most+"\n"), impl.Heard{Code: 2})
	fewer := strings.Repeat("ghost 100 +\n", 1666)
	sameHeard(t, "20000 bytes of 1667 lines", impl.ReadEvents(l, fewer+"alive 0\n"), impl.Heard{Events: append(times(ghost(100, 1), 1666), lives(0))})
	sameHeard(t, "20000 bytes, the last one is no newline", impl.ReadEvents(l, fewer+"alive 10"), impl.Heard{Code: 3, Line: 1667})
	sameHeard(t, "20001 bytes of 1667 lines", impl.ReadEvents(l, fewer+"alive 10\n"), impl.Heard{Code: 2})
	sameHeard(t, "far more", impl.ReadEvents(l, strings.Repeat(most, 50)), impl.Heard{Code: 2})
}

// The line of one event more than can be is wrong, whatever stands there; one that is wrong ahead of it comes first.
func TestReadEventsMostEvents(t *testing.T) {
	for _, e := range []impl.Event{dies(0), pass(2, 1), reset(1)} {
		text := strings.Repeat(linePlain(e), 2000)
		sameHeard(t, "2000", impl.ReadEvents(row(2), text), impl.Heard{Events: times(e, 2000)})
		for _, more := range []string{"dead 0\n", "dead 0", "\n", "x", "dead 0\ndead 0\n", "nothing\n"} {
			sameHeard(t, fmt.Sprintf("2000 and %q", more), impl.ReadEvents(row(2), text+more), impl.Heard{Code: 3, Line: 2001})
		}
	}
	early := strings.Repeat("dead 0\n", 1999) + "dead 3\n" + strings.Repeat("dead 0\n", 200)
	sameHeard(t, "the last one that could be is none", impl.ReadEvents(row(2), early), impl.Heard{Code: 3, Line: 2000})
	sameHeard(t, "all the bytes of short lines", impl.ReadEvents(row(2), strings.Repeat("dead 0\n", 2857)), impl.Heard{Code: 3, Line: 2001})
}

// spoilt is a text with a byte taken out, put in, or written over, here and there.
func spoilt(n *numbers, text string) string {
	const bytes = " +-\n0123456789passghostdeadalivereset\r\t\x00\xff"
	for i := 1 + n.below(2); i > 0; i-- {
		at := n.below(len(text) + 1)
		put := string(bytes[n.below(len(bytes))])
		switch n.below(4) {
		case 0:
			text = text[:at] + put + text[at:]
		case 1:
			text = text[:at] + text[min(at+1, len(text)):]
		case 2:
			text = text[:at] + put + text[min(at+1, len(text)):]
		case 3:
			text = text[:at]
		}
	}
	return text
}

// TestReadEventsOfManyTexts asks also that what is read is what would be written as that text.
func TestReadEventsOfManyTexts(t *testing.T) {
	n := numbers(79)
	codes := make([]int, 4)
	for try := 0; try < 20000; try++ {
		l := anyLayout(&n)
		text := spoilt(&n, impl.WriteEvents(l, eventsOnly(l, anyEvents(&n, l, 8))))
		got := impl.ReadEvents(l, text)
		sameHeard(t, fmt.Sprintf("%q in %+v", text, l), got, readPlain(l, text))
		if got.Code == 0 && impl.WriteEvents(l, got.Events) != text {
			t.Errorf("%q in %+v: written as %q", text, l, impl.WriteEvents(l, got.Events))
		}
		if t.Failed() {
			return
		}
		codes[got.Code]++
	}
	if codes[0] < 1000 || codes[3] < 5000 {
		t.Error("drawn too few of a kind:", codes)
	}
}

// TestReadEventsEveryChange writes every byte at every place of a text, and in between.
func TestReadEventsEveryChange(t *testing.T) {
	text := "pass 10 +\nghost 1 -\ndead 0\nreset 2\nalive 11\n"
	l := many(12)
	l.Sections = 3
	for at := 0; at <= len(text); at++ {
		for b := 0; b < 256; b++ {
			put := string([]byte{byte(b)})
			for _, other := range []string{text[:at] + put + text[at:], text[:at] + put + text[min(at+1, len(text)):]} {
				sameHeard(t, fmt.Sprintf("%q", other), impl.ReadEvents(l, other), readPlain(l, other))
			}
		}
	}
}

// Every text put together of pieces of lines.
func TestReadEventsOfPieces(t *testing.T) {
	l := impl.Layout{Sections: 2}
	for _, a := range []string{"", "reset", "rese", "dead", "reset 0\nreset"} {
		for _, b := range []string{"", " ", "  ", "\n"} {
			for _, c := range []string{"", "0", "1", "2", "00", "10", "+1", "-0"} {
				for _, d := range []string{"", " ", " +", "\n", " \n", "\n\n", "\nreset 1\n"} {
					text := a + b + c + d
					sameHeard(t, fmt.Sprintf("%q", text), impl.ReadEvents(l, text), readPlain(l, text))
				}
			}
		}
	}
}

func TestReadEventsIsNewMemory(t *testing.T) {
	text := "pass 0 +\nghost 1 -\ndead 2\n"
	first := impl.ReadEvents(row(2), text)
	all := first.Events[:cap(first.Events)]
	for i := range all {
		all[i] = impl.Event{Op: 55, Of: 55, Dir: 55}
	}
	sameHeard(t, "behind an answer that was written into", impl.ReadEvents(row(2), text), impl.Heard{Events: []impl.Event{pass(0, 1), ghost(1, -1), dies(2)}})
}

func TestReadEventsNeverPanics(t *testing.T) {
	for _, a := range wild {
		for _, form := range []string{"pass %d +\n", "ghost %d -\n", "dead %d\n", "alive %d\n", "reset %d\n", "pass 0 %d\n", "%d 0 +\n"} {
			text := fmt.Sprintf(form, a)
			sameHeard(t, text, impl.ReadEvents(row(2), text), readPlain(row(2), text))
			for _, b := range wild {
				for _, c := range wild {
					impl.ReadEvents(one(a, b, c), text)
				}
			}
		}
	}
	for length := 0; length <= 20001; length += 667 {
		for _, b := range []string{"\n", " ", "0", "9", "+", "a", "\xff", "\x00"} {
			text := strings.Repeat(b, length)
			sameHeard(t, fmt.Sprintf("%d of %q", length, b), impl.ReadEvents(row(2), text), readPlain(row(2), text))
		}
	}
}
