package tests

import (
	"fmt"
	"strings"
	"testing"

	"loop.example/treadle/impl"
)

// answerPlain is the document's paragraph on answers, by what the tests themselves read and run.
func answerPlain(l impl.Layout, text string) string {
	heard := readPlain(l, text)
	if heard.Code != 0 {
		return fmt.Sprintf("wrong %d %d\n", heard.Code, heard.Line)
	}
	var answer strings.Builder
	for _, d := range runPlain(l, heard.Events) {
		fmt.Fprint(&answer, d.Code, " ")
		for _, s := range d.State.Sections {
			answer.WriteByte([4]byte{'.', '#', '~', '!'}[s.Told])
		}
		answer.WriteByte('\n')
	}
	return answer.String()
}

// Each of the codes that an event that is one can have, and each of the four signs.
func TestAnswerByHand(t *testing.T) {
	for _, c := range []struct{ text, want string }{
		{"pass 0 +\n", "0 #.\n"},
		{"pass 0 +\npass 1 +\npass 2 +\n", "0 #.\n0 .#\n0 ..\n"},
		{"pass 2 -\npass 1 -\npass 0 -\n", "0 .#\n0 #.\n0 ..\n"},
		{"ghost 1 +\n", "0 .#\n"}, {"ghost 1 -\n", "0 #.\n"}, {"ghost 0 -\n", "0 ..\n"},
		{"dead 0\n", "0 !.\n"}, {"dead 1\n", "0 !!\n"}, {"dead 2\n", "0 .!\n"}, {"alive 0\n", "0 ..\n"},
		{"reset 0\n", "0 ~.\n"}, {"reset 1\n", "0 .~\n"},
		{"dead 0\npass 0 +\n", "0 !.\n2 !.\n"},
		{"dead 0\nghost 0 -\n", "0 !.\n2 !.\n"},
		{"dead 0\nreset 0\nreset 1\n", "0 !.\n3 !.\n0 !~\n"},
		{"pass 0 +\nreset 0\n", "0 #.\n4 #.\n"},
		{"dead 1\nalive 1\nreset 0\npass 0 +\npass 1 +\n", "0 !!\n0 ##\n0 ~#\n0 ~#\n0 .#\n"},
	} {
		if got := impl.Answer(row(2), c.text); got != c.want {
			t.Errorf("%q: %q", c.text, got)
		}
	}
	// all four signs and all codes in one
	four := "dead 0\npass 2 +\nreset 2\nreset 0\npass 0 +\nreset 3\n"
	if got := impl.Answer(row(5), four); got != "0 !....\n0 !##..\n4 !##..\n3 !##..\n2 !##..\n0 !##~.\n" {
		t.Errorf("%q", got)
	}
}

// A sign for each section, in their order, and nothing for a counter.
func TestAnswerHasEachSection(t *testing.T) {
	for _, sections := range []int{1, 2, 9, 10, 59, 60} {
		for at := 0; at < sections; at++ {
			got := impl.Answer(row(sections), fmt.Sprintf("ghost %d +\n", at))
			if want := "0 " + strings.Repeat(".", at) + "#" + strings.Repeat(".", sections-at-1) + "\n"; got != want {
				t.Errorf("section %d of %d: %q", at, sections, got)
			}
		}
	}
	if got := impl.Answer(impl.Layout{Sections: 3}, "reset 1\n"); got != "0 .~.\n" {
		t.Errorf("without counters: %q", got)
	}
}

func TestAnswerOfNothing(t *testing.T) {
	for _, l := range []impl.Layout{row(2), {Sections: 1}, fullLayout()} {
		if got := impl.Answer(l, ""); got != "" {
			t.Errorf("%q", got)
		}
	}
}

func TestAnswerWrongTexts(t *testing.T) {
	for name, l := range wrongLayouts() {
		for _, text := range []string{"", "pass 0 +\n", "nothing", strings.Repeat("\n", 20001)} {
			if got := impl.Answer(l, text); got != "wrong 1 0\n" {
				t.Errorf("%s: %q", name, got)
			}
		}
	}
	for _, c := range []struct{ text, want string }{
		{strings.Repeat("pass 0 +\n", 3000), "wrong 2 0\n"}, {strings.Repeat("x", 20001), "wrong 2 0\n"},
		{strings.Repeat("x", 20000), "wrong 3 1\n"}, {"\n", "wrong 3 1\n"}, {"pass 0 +", "wrong 3 1\n"}, {"pass 0 +\npass 3 +\n", "wrong 3 2\n"},
		{"pass 0 +\npass 1 +\nreset 2\n", "wrong 3 3\n"}, {strings.Repeat("dead 0\n", 9) + "dead 0", "wrong 3 10\n"},
		{strings.Repeat("dead 0\n", 1999) + "x", "wrong 3 2000\n"}, {strings.Repeat("dead 0\n", 2001), "wrong 3 2001\n"},
	} {
		if got := impl.Answer(row(2), c.text); got != c.want {
			t.Errorf("%d bytes: %q, want %q", len(c.text), got, c.want)
		}
	}
	for _, line := range wrongLines {
		if got := impl.Answer(row(2), "dead 0\n"+line+"\n"); got != "wrong 3 2\n" {
			t.Errorf("%q: %q", line, got)
		}
	}
}

func TestAnswerMostEvents(t *testing.T) {
	l := row(60)
	text := strings.Repeat("pass 10 +\n", 2000)
	if got := impl.Answer(l, text); got != answerPlain(l, text) || strings.Count(got, "\n") != 2000 || len(got) != 2000*63 {
		t.Errorf("2000: %d bytes", len(got))
	}
	if got := impl.Answer(row(2), strings.Repeat("dead 0\n", 2000)); got != strings.Repeat("0 !.\n", 2000) {
		t.Errorf("2000: %d bytes", len(got))
	}
}

func TestAnswerOfManyTexts(t *testing.T) {
	n := numbers(83)
	codes, signs, wrong := map[rune]int{}, map[rune]int{}, 0
	for try := 0; try < 4000; try++ {
		l := spacious(&n)
		text := impl.WriteEvents(l, eventsOnly(l, anyEvents(&n, l, 60)))
		if try%4 == 0 {
			text = spoilt(&n, text)
		}
		got := impl.Answer(l, text)
		if want := answerPlain(l, text); got != want {
			t.Fatalf("%q in %+v: got %q, want %q", text, l, got, want)
		}
		if strings.HasPrefix(got, "wrong") {
			wrong++
			continue
		}
		for line := range strings.Lines(got) {
			codes[rune(line[0])]++
			for _, sign := range line[2 : len(line)-1] {
				signs[sign]++
			}
		}
	}
	for _, code := range "0234" {
		if codes[code] < 500 {
			t.Errorf("code %c came %d times only", code, codes[code])
		}
	}
	for _, sign := range ".#~!" {
		if signs[sign] < 5000 {
			t.Errorf("sign %c came %d times only", sign, signs[sign])
		}
	}
	if wrong < 300 {
		t.Error("wrong texts came too seldom:", wrong)
	}
}

func TestAnswerNeverPanics(t *testing.T) {
	for _, a := range wild {
		for _, b := range wild {
			for _, c := range wild {
				text := fmt.Sprintf("pass 0 +\nreset 0\npass %d +\n", b)
				if got, want := impl.Answer(one(a, b, c), text), answerPlain(one(a, b, c), text); got != want {
					t.Errorf("%v: got %q, want %q", one(a, b, c), got, want)
				}
			}
		}
	}
}
