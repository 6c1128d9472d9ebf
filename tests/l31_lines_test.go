package tests

import (
	"fmt"
	"slices"
	"strings"
	"sync"
	"testing"

	"loop.example/casket/impl"
)

func TestKnownLines(t *testing.T) {
	text := `write 0 0 0 6
writein 0 0 1 9
write 1 2 1 9
join
join
write 0 2 1 10
read 1 2 1
readin 0 0 1
write 0 0 0 5
writein 0 0 1 11
forget 0
writein 0 0 1 12
readin 0 1 1
readin 0 0 1
move 7
move 0
out 0 2
carry
read 2 0 0
hello
writein 1 0 0 64
write 1 5 3 63
`
	want := `0
0
0
0
bad
9
9
10
6
10
0
denied
fault
11
bad
0
0
0
bad
what
bad
0
guest 0
5 0 0 0
0 0 0 0
0 11 0 0
0 0 0 0
0 0 0 0
0 0 0 0
guest 1
0 0 0 0
0 0 0 0
0 9 0 0
0 0 0 0
0 0 0 0
0 0 0 63
`
	if got := impl.LinesRun(2, text); got != want {
		t.Errorf("LinesRun of\n%s is\n%s, and has to be\n%s", text, got, want)
	}
	wantText(t, 2, text)
}

func TestLinesRunAsTheDocumentSays(t *testing.T) {
	tells := map[string]int{}
	for seed := range 300 {
		for _, text := range []string{looseText(seed), byteText(seed), textOf(thrownLines(seed, guestsOf(seed), textMost)...)} {
			for _, guests := range []int{1, 2} {
				wantText(t, guests, text)
				for _, told := range hear(t, guests, text).told {
					tells[told]++
				}
			}
		}
	}
	for _, told := range []string{"0", "1", "2", "fault", "denied", "bad", "what"} {
		if tells[told] < 200 {
			t.Errorf("%q is told just %d times", told, tells[told])
		}
	}
}

// eachLine are lines that say acts of each kind, of all places, with a word or two.
func eachLine() []string {
	var lines []string
	for guest := range impl.GuestMax + 1 {
		lines = append(lines, lineOf(actForget(guest)))
		for i, at := range places(impl.PageMax) {
			p := page{guest, at.page}
			lines = append(lines, lineOf(actRead(p, at.off)), lineOf(actWrite(p, at.off, 6+i)), lineOf(actReadIn(p, at.off)), lineOf(actWriteIn(p, at.off, 7+i)))
		}
		for at := range impl.PageMax + 1 {
			lines = append(lines, lineOf(actOut(page{guest, at})))
		}
	}
	for frame := range impl.FrameMax + 1 {
		lines = append(lines, lineOf(actMove(frame)))
	}
	return append(lines, "join", "carry")
}

func TestEachLineIsHostDoOfItsActHostByHost(t *testing.T) {
	tells := map[string]int{}
	for seed := range 24 {
		guests := guestsOf(seed)
		lines := thrownLines(seed, guests, textMost-60-seed*20)
		h, told := newHost(guests), ""
		for _, line := range lines {
			next, tell := hostLine(h, line)
			h, told = next, told+tell+"\n"
		}
		for _, line := range eachLine() {
			// What the host is behind it shows in what comes of the next one.
			behind, tell := hostLine(h, line)
			then := []string{"join", "move 0", "readin 0 0 1", "move 5"}[(seed+len(line))%4]
			last, thenTell := hostLine(behind, then)
			want := told + tell + "\n" + thenTell + "\n" + endTold(seenMems(last)...)
			if got := impl.LinesRun(guests, textOf(append(slices.Clone(lines), line, then)...)); got != want {
				t.Fatalf("behind\n%q\nof %s, and %s, is told\n%s, and has to be\n%s", lines, line, then, got, want)
			}
			word := wordsOf(line)[0]
			tells[word]++
			tells[word+" "+tell]++
		}
	}
	for _, f := range forms() {
		zero, bad := tells[f.word+" 0"], tells[f.word+" bad"]
		if zero < 10 || bad == 0 && f.kind != impl.ActCarry || f.kind < impl.ActForget && tells[f.word]-zero-bad < 20 {
			t.Errorf("of %s %d are 0, %d bad, of %d", f.word, zero, bad, tells[f.word])
		}
	}
	if tells["readin fault"] == 0 || tells["writein fault"] == 0 || tells["writein denied"] == 0 {
		t.Errorf("there are just %v", tells)
	}
}

// hostLine is what the program's HostDo says of a line.
func hostLine(h impl.Host, line string) (impl.Host, string) {
	a, ok := saidAct(line)
	if !ok {
		return h, "what"
	}
	made, told := impl.HostDo(h, a)
	return made, tellOf(told)
}

func TestEachLineSaysItsOwnNumbers(t *testing.T) {
	// Guest, page, place and word are another number each, so that two that are mixed up show.
	wantTalk(t, 2, talk{
		{"write 1 5 3 40", "0"}, {"write 1 3 2 41", "0"}, {"write 0 5 3 42", "0"}, {"write 0 1 3 43", "0"},
		{"read 1 5 3", "40"}, {"read 1 3 2", "41"}, {"read 0 5 3", "42"}, {"read 0 1 3", "43"}, {"read 0 3 1", "0"},
		{"write 1 1 1 12", "0"}, {"readin 1 5 3", "40"}, {"readin 1 5 2", "0"}, {"readin 0 5 3", "fault"},
		{"writein 1 5 3 44", "40"}, {"writein 1 5 2 45", "0"}, {"read 1 5 2", "45"}, {"read 1 5 3", "44"},
	})
	// Guest 1 forgets its own shades, and page 3 of guest 1 goes out, not page 1 of guest 3.
	wantTalk(t, 2, talk{
		{"write 0 0 1 6", "0"}, {"writein 0 1 0 9", "0"}, {"write 0 0 1 0", "6"},
		{"write 1 0 1 8", "0"}, {"writein 1 1 0 10", "0"}, {"write 1 0 1 0", "8"},
		{"forget 1", "0"}, {"readin 1 1 0", "fault"}, {"readin 0 1 0", "9"},
		{"move 3", "0"}, {"move 3", "bad"}, {"out 1 3", "0"}, {"move 4", "bad"}, {"read 1 3 0", "10"}, {"forget 0", "0"}, {"readin 0 1 0", "fault"},
	})
}

func TestAFaultLeavesTheTableIn(t *testing.T) {
	// Though no word comes of them, the host behind these is not the one ahead: the page of the table is in frame 0.
	wantTalk(t, 1, talk{{"move 0", "bad"}, {"readin 0 0 0", "fault"}, {"move 0", "0"}, {"move 0", "bad"}})
	wantTalk(t, 1, talk{{"move 0", "bad"}, {"writein 0 0 0 1", "fault"}, {"move 0", "0"}, {"move 0", "bad"}})
	wantTalk(t, 1, talk{{"write 0 0 0 5", "0"}, {"carry", "0"}, {"move 0", "bad"}, {"writein 0 0 0 1", "denied"}, {"move 0", "0"}, {"move 1", "0"}, {"out 0 0", "0"}, {"move 0", "bad"}})
}

func TestLinesThatAreBadOrNoneLeaveTheHost(t *testing.T) {
	wrong := []string{"read 2 0 0", "what", "write 0 0 0 64", "", "readin 0 6 0", "writein 0 0 4 1", "forget", "JOIN", "out 0", "move 8", "move -1", "read 0 0 x", "carrying", "\xff\x00", "write 0 0 0"}
	for seed := range manyPlays {
		guests := guestsOf(seed)
		// So few that with a wrong one ahead of each the text is not too long.
		lines := thrownLines(seed, guests, textMost/3)
		plain := hear(t, guests, textOf(lines...))
		var mixed, told []string
		var own []int
		for i, line := range lines {
			mixed = append(mixed, wrong[(seed+i)%len(wrong)])
			own = append(own, len(mixed))
			mixed = append(mixed, line)
		}
		got := hear(t, guests, textOf(mixed...))
		for i, line := range mixed {
			if slices.Contains(own, i) {
				told = append(told, got.told[i])
			} else if got.told[i] != "bad" && got.told[i] != "what" {
				t.Fatalf("of %q is told %s", line, got.told[i])
			}
		}
		if got.end != plain.end || !slices.Equal(told, plain.told) {
			t.Fatalf("with lines between that are bad, or none,\n%q\ntells\n%q\n%s, and has to tell\n%q\n%s", mixed, told, got.end, plain.told, plain.end)
		}
	}
}

func TestLinesRunOfEachNumberOfGuests(t *testing.T) {
	texts := append(someTexts(), "write 0 2 0 5\nwrite 1 2 0 6\nread 0 2 0\nread 1 2 0\n")
	for _, guests := range []int{-1, 0, 3, -2, 4, 256 + 1, 1<<32 + 1, -1 << 63, 1<<63 - 1, 1 << 62} {
		for _, text := range texts {
			if got := impl.LinesRun(guests, text); got != "no guests\n" {
				t.Fatalf("LinesRun of %d guests, and %q, is %q", guests, text, got)
			}
		}
	}
	wantTalk(t, 1, talk{{"write 0 2 0 5", "0"}, {"write 1 2 0 6", "bad"}, {"read 0 2 0", "5"}, {"read 1 2 0", "bad"}, {"forget 1", "bad"}, {"out 1 2", "bad"}, {"forget 0", "0"}, {"out 0 2", "0"}})
	wantTalk(t, 2, talk{{"write 0 2 0 5", "0"}, {"write 1 2 0 6", "0"}, {"read 0 2 0", "5"}, {"read 1 2 0", "6"}, {"forget 1", "0"}, {"out 1 2", "0"}, {"forget 2", "bad"}, {"out 2 2", "bad"}})
}

func TestTextsAsLongAsTheyMayBe(t *testing.T) {
	for _, line := range []string{"", "join", "carry", "write 0 2 1 9", "readin 0 0 0", "hello", "\x00", "é", "\xff\xfe", strings.Repeat("9", 60), "out 0 0" + strings.Repeat(" ", 50)} {
		lines := strings.Repeat(line+"\n", textMost/(len(line)+1))
		full := lines + strings.Repeat("\n", textMost-len(lines))
		for _, text := range []string{full, full[:textMost-1], full[1:], strings.Repeat("x", textMost), strings.Repeat("x", textMost-1) + "\n"} {
			for _, guests := range []int{1, 2} {
				hear(t, guests, text)
				wantText(t, guests, text)
			}
		}
		for _, text := range []string{full + "\n", full + "x", "\n" + full, full + full, strings.Repeat("x", textMost+1), strings.Repeat("é", textMost/2) + "\n", strings.Repeat(full, 100)} {
			for guests, want := range map[int]string{-1: "no guests\n", 0: "no guests\n", 1: "too long\n", 2: "too long\n", 3: "no guests\n"} {
				if got := impl.LinesRun(guests, text); got != want {
					t.Fatalf("LinesRun of %d guests, and %d bytes, is %q", guests, len(text), got)
				}
			}
		}
	}
	// Bytes are counted, not characters.
	if got := impl.LinesRun(1, strings.Repeat("é", textMost/2)); got != impl.LinesRun(1, "") {
		t.Errorf("of %d bytes %q is told", textMost, got)
	}
}

func TestMoreLinesThanActsOfAPlay(t *testing.T) {
	// PlayMax bounds plays, not lines.
	lines := []string{"write 0 2 0 0"}
	for len(textOf(lines...)) < textMost-20 {
		lines = append(lines, "join")
	}
	lines = append(lines, "write 0 2 0 9")
	got := hear(t, 1, textOf(lines...))
	if len(lines) < 2*impl.PlayMax || memsOf(t, 1, got.end)[0][2][0] != 9 {
		t.Errorf("behind %d lines guest 0 has\n%s", len(lines), got.end)
	}
}

func TestWhatIsBehindTheLastNewlineDoesNotCount(t *testing.T) {
	heads := []string{"", "\n", "write 0 2 1 9\n", "write 0 2 1 9\n\n", "hello\n", "join\nwrite 0 2 1 9\n"}
	tails := []string{"write 0 2 1 10", "read 0 0 0", "read 9 0 0", "hello", "join", "carry", " ", "\r", "\x00", "\xff", "write 0 2 1 1 \r", strings.Repeat("x", 700)}
	for _, head := range heads {
		for _, tail := range tails {
			for _, guests := range []int{1, 2} {
				if got, want := impl.LinesRun(guests, head+tail), impl.LinesRun(guests, head); got != want {
					t.Fatalf("of %q is told\n%q, and of %q\n%q", head+tail, got, head, want)
				}
			}
			if got := hear(t, 1, head+tail+"\n"); len(got.told) != 1+strings.Count(head, "\n") {
				t.Fatalf("of %q is told\n%q", head+tail+"\n", got.told)
			}
		}
	}
}

func TestJustANewlineEndsALine(t *testing.T) {
	for _, end := range []string{"\r", "\v", "\f", "\x00", "\x1e", "\x85", "\u0085", "\u2028", "\u2029", ";", "\\n"} {
		if got := hear(t, 1, "join"+end+"join\n"); !slices.Equal(got.told, []string{"what"}) {
			t.Errorf("with %q between two words is told %q", end, got.told)
		}
		if got := hear(t, 1, "carry 1"+end+"join\n"); !slices.Equal(got.told, []string{"0"}) {
			t.Errorf("with %q behind what is whole is told %q", end, got.told)
		}
		if got := hear(t, 1, "carry\njoin"+end); !slices.Equal(got.told, []string{"0"}) {
			t.Errorf("with %q at the end is told %q", end, got.told)
		}
	}
	if got := hear(t, 1, "carry\r\ncarry \r\n"); !slices.Equal(got.told, []string{"what", "0"}) {
		t.Errorf("of lines with a return ahead of the newline is told %q", got.told)
	}
}

func TestEmptyLinesBetweenLines(t *testing.T) {
	wantTalk(t, 1, talk{{"", "what"}, {"write 0 2 1 9", "0"}, {"", "what"}, {"", "what"}, {"read 0 2 1", "9"}, {" ", "what"}, {"", "what"}})
	if got := hear(t, 2, strings.Repeat("\n", textMost)); slices.ContainsFunc(got.told, func(told string) bool { return told != "what" }) {
		t.Errorf("of empty lines is told %q", got.told)
	}
}

func TestEachWordIsTold(t *testing.T) {
	for word := range impl.WordMax + 1 {
		mems := wantTalk(t, 2, talk{{fmt.Sprint("write 1 4 2 ", word), "0"}, {"read 1 4 2", fmt.Sprint(word)}, {"write 1 4 2 1", fmt.Sprint(word)}, {fmt.Sprint("write 1 4 3 ", word), "0"}})
		if want := changedMem(changedMem(evenMem(impl.PageMax, 0), place{4, 2}, 1), place{4, 3}, word); !sameMem(mems[1], want) {
			t.Fatalf("guest 1 has %v", mems[1])
		}
	}
}

func TestTheEndTellsEachPlace(t *testing.T) {
	for guest := range 2 {
		lines, mem := []string{}, evenMem(impl.PageMax, 0)
		for i, at := range places(impl.PageMax) {
			mem[at.page][at.off] = 10 + i
			lines = append(lines, fmt.Sprintf("write %d %d %d %d", guest, at.page, at.off, 10+i))
		}
		mems := [][][]int{evenMem(impl.PageMax, 0), evenMem(impl.PageMax, 0)}
		mems[guest] = mem
		if got, want := impl.LinesRun(2, textOf(lines...)), strings.Repeat("0\n", len(lines))+endTold(mems...); got != want {
			t.Errorf("of writes to each place of guest %d is told\n%s, and has to be\n%s", guest, got, want)
		}
	}
}

func TestTextsOfBytesThatAreNoCharacters(t *testing.T) {
	for b := range 256 {
		one := string([]byte{byte(b)})
		for _, text := range []string{
			one, one + "\n", strings.Repeat(one, textMost), strings.Repeat(one+"\n", textMost/2), "join" + one + "\n", one + "join\n",
			"read 0 0 " + one + "\n", "read 0 0 0" + one + "\n", "read 0 0 " + one + "0\n", "read" + one + "0 0 0\n", "carry " + one + "\n",
			"write 0 2 1 9\n" + one + "\nread 0 2 1\n", "write 0 2 1 9\n" + one + "read 0 2 1\n",
		} {
			for _, guests := range []int{1, 2} {
				hear(t, guests, text)
				wantText(t, guests, text)
			}
		}
	}
}

func TestTheSameTextIsToldTheSame(t *testing.T) {
	texts := someTexts()
	want := map[int][]string{}
	for _, guests := range []int{0, 1, 2, 3} {
		for _, text := range texts {
			want[guests] = append(want[guests], impl.LinesRun(guests, text))
		}
	}
	var all sync.WaitGroup
	wrong := make(chan string, 32)
	for worker := range 32 {
		all.Go(func() {
			for i := range texts {
				// Each goes through the texts in another order, so that what would be kept from one call shows in another.
				at := (i*7 + worker*5) % len(texts)
				guests := (worker + i) % 4
				if got := impl.LinesRun(guests, texts[at]); got != want[guests][at] {
					wrong <- fmt.Sprintf("LinesRun of %d guests, and\n%q, is\n%q, and was\n%q", guests, texts[at], got, want[guests][at])
					return
				}
			}
		})
	}
	all.Wait()
	close(wrong)
	for what := range wrong {
		t.Error(what)
	}
}
