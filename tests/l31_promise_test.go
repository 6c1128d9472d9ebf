package tests

import (
	"fmt"
	"slices"
	"strings"
	"testing"

	"loop.example/casket/impl"
)

// someTexts are texts of all kinds.
func someTexts() []string {
	texts := []string{"", "\n", "join", "join\n", strings.Repeat("\n", textMost), strings.Repeat("\n", textMost+1), strings.Repeat("x", textMost), strings.Repeat(" ", textMost+1)}
	for seed := range 60 {
		texts = append(texts, looseText(seed), byteText(seed), textOf(thrownLines(seed, guestsOf(seed), textMost)...))
	}
	return texts
}

func TestP105EachTextIsToldLines(t *testing.T) {
	for _, text := range someTexts() {
		for guests := -2; guests <= impl.GuestMax+2; guests++ {
			told := impl.LinesRun(guests, text)
			if told == "" || !strings.HasSuffix(told, "\n") {
				t.Fatalf("LinesRun of %d guests, and\n%q, is\n%q", guests, text, told)
			}
			if guests < 1 || guests > impl.GuestMax || len(text) > textMost {
				if strings.Count(told, "\n") != 1 {
					t.Fatalf("LinesRun of %d guests, and %d bytes, is\n%q", guests, len(text), told)
				}
				continue
			}
			if lines := strings.Count(told, "\n"); lines != strings.Count(text, "\n")+guests*(impl.PageMax+1) {
				t.Fatalf("LinesRun of %d guests, and\n%q, is %d lines", guests, text, lines)
			}
		}
	}
}

func TestP106WhatTheHostDoesBehindLinesIsNotSeen(t *testing.T) {
	for seed := range manyPlays {
		guests := guestsOf(seed)
		lines := thrownLines(seed, guests, textMost-len("join\ncarry\nout 0 0\n"))
		plain := hear(t, guests, textOf(lines...))
		for _, more := range [][]string{{"join"}, {"carry"}, {"out 0 0"}, {"join", "carry", "out 0 0"}, {"out 0 0", "join", "carry"}, {"join", "join", "join"}} {
			if got := hear(t, guests, textOf(slices.Concat(lines, more)...)); got.end != plain.end || !slices.Equal(got.told[:len(lines)], plain.told) {
				t.Fatalf("behind\n%q, and %q, guests have\n%q, and had\n%q", lines, more, got.end, plain.end)
			}
		}
	}
}

func TestP107WhatIsWrittenIsRead(t *testing.T) {
	for i, at := range places(impl.PageMax) {
		for _, guests := range []int{1, 2} {
			guest, word := guests-1, 1+(i*17)%impl.WordMax
			place := fmt.Sprintf("%d %d %d", guest, at.page, at.off)
			mems := wantTalk(t, guests, talk{
				{"read " + place, "0"},
				{fmt.Sprint("write ", place, " ", word), "0"},
				{"read " + place, fmt.Sprint(word)},
				{fmt.Sprint("write ", place, " 63"), fmt.Sprint(word)},
				{"read " + place, "63"},
				{fmt.Sprint("write ", place, " ", word), "63"},
			})
			if want := changedMem(evenMem(impl.PageMax, 0), at, word); !sameMem(mems[guest], want) {
				t.Fatalf("behind writes of %d to %s guest %d has %v", word, place, guest, mems[guest])
			}
		}
	}
}

func TestP107TablesThatLinesMake(t *testing.T) {
	for from, at := range tabPlaces() {
		for to := impl.TabLow; to < impl.PageMax; to++ {
			for _, e := range []impl.Entry{{Has: true, Page: to}, {Has: true, Page: to, Write: true}} {
				guest := (from + to) % 2
				in, other := fmt.Sprintf("%d %d 3", guest, from), fmt.Sprintf("%d %d 3", guest, (from+1)%impl.PageMax)
				said := talk{
					{"readin " + in, "fault"},
					{"writein " + in + " 5", "fault"},
					{fmt.Sprintf("write %d %d %d %d", guest, at.page, at.off, impl.EntryNum(e)), "0"},
					{fmt.Sprintf("write %d %d 3 9", guest, to), "0"},
					{"readin " + in, "9"},
					{"readin " + other, "fault"},
					{"writein " + other + " 5", "fault"},
				}
				want := 9
				if e.Write {
					said, want = append(said, talk{{"writein " + in + " 10", "9"}, {"readin " + in, "10"}}...), 10
				} else {
					said = append(said, talk{{"writein " + in + " 10", "denied"}, {"readin " + in, "9"}}...)
				}
				said = append(said, talk{{fmt.Sprintf("read %d %d 3", guest, to), fmt.Sprint(want)}}...)
				mems := wantTalk(t, 2, said)
				mem := changedMem(changedMem(evenMem(impl.PageMax, 0), at, impl.EntryNum(e)), place{to, 3}, want)
				if !sameMem(mems[guest], mem) || !sameMem(mems[1-guest], evenMem(impl.PageMax, 0)) {
					t.Fatalf("behind %v guests have %v", said, mems)
				}
			}
		}
	}
}

func TestP107WordsThatLeadNowhere(t *testing.T) {
	for word := range impl.WordMax + 1 {
		e := givenWords[word]
		said := talk{{fmt.Sprint("write 0 0 0 ", word), "0"}, {"readin 0 0 1", "0"}, {"writein 0 0 1 7", "0"}, {"readin 0 0 1", "7"}}
		switch {
		case !e.Has:
			said[1].told, said[2].told, said[3].told = "fault", "fault", "fault"
		case !e.Write:
			said[2].told, said[3].told = "denied", "0"
		}
		wantTalk(t, 1, said)
	}
}

func TestP108NoLines(t *testing.T) {
	noughts := "0 0 0 0\n0 0 0 0\n0 0 0 0\n0 0 0 0\n0 0 0 0\n0 0 0 0\n"
	cases := []struct {
		guests     int
		text, want string
	}{
		{1, "", "guest 0\n" + noughts},
		{2, "", "guest 0\n" + noughts + "guest 1\n" + noughts},
		{1, "hello\n", "what\nguest 0\n" + noughts},
		{1, "read 1 0 0\n", "bad\nguest 0\n" + noughts},
		{2, "read 2 0 0\nhello\n", "bad\nwhat\nguest 0\n" + noughts + "guest 1\n" + noughts},
		{0, "", "no guests\n"},
		{3, "join\n", "no guests\n"},
		{1, strings.Repeat("\n", textMost+1), "too long\n"},
	}
	for _, c := range cases {
		if got := impl.LinesRun(c.guests, c.text); got != c.want {
			t.Errorf("LinesRun of %d guests, and %q, is\n%q, and has to be\n%q", c.guests, c.text, got, c.want)
		}
	}
}

func TestP109WhatIsSharedIsNotAnothers(t *testing.T) {
	for at := range impl.PageMax {
		for writer := range 2 {
			for i, off := range []int{0, 1, 2, 3} {
				word := 1 + (at*7+i*11)%62
				of := func(guest int) string { return fmt.Sprintf("%d %d %d", guest, at, off) }
				mems := wantTalk(t, 2, talk{
					{"write " + of(0) + fmt.Sprint(" ", word), "0"},
					{"write " + of(1) + fmt.Sprint(" ", word), "0"},
					{"join", "0"},
					{"join", "bad"},
					{"write " + of(writer) + " 63", fmt.Sprint(word)},
					{"read " + of(1-writer), fmt.Sprint(word)},
					{"read " + of(writer), "63"},
				})
				same := changedMem(evenMem(impl.PageMax, 0), place{at, off}, word)
				if !sameMem(mems[1-writer], same) || !sameMem(mems[writer], changedMem(same, place{at, off}, 63)) {
					t.Fatalf("behind a write of guest %d to page %d, that was shared, guests have %v", writer, at, mems)
				}
			}
		}
	}
}

func TestP109WhatIsSharedAndWrittenInIsNotAnothers(t *testing.T) {
	// Page 2 is shared with the other guest, with a shade that led to it ahead of that, and could be written.
	for writer := range 2 {
		w, o := fmt.Sprint(writer), fmt.Sprint(1-writer)
		wantTalk(t, 2, talk{
			{"write " + w + " 0 0 6", "0"},
			{"writein " + w + " 0 1 9", "0"},
			{"write " + o + " 2 1 9", "0"},
			{"join", "0"},
			{"writein " + w + " 0 1 10", "9"},
			{"read " + o + " 2 1", "9"},
			{"read " + w + " 2 1", "10"},
			{"join", "bad"},
		})
	}
}

func TestP110AnEntryThatIsChangedLeadsWhereItLed(t *testing.T) {
	for from, at := range tabPlaces() {
		for to := impl.TabLow; to < impl.PageMax; to++ {
			then := impl.TabLow + (to-impl.TabLow+1)%(impl.PageMax-impl.TabLow)
			entry := func(page int) string {
				return fmt.Sprintf("write 0 %d %d %d", at.page, at.off, 2+2*page)
			}
			was := fmt.Sprint(2 + 2*to)
			mems := wantTalk(t, 1, talk{
				{entry(to), "0"},
				{fmt.Sprintf("writein 0 %d 0 9", from), "0"},
				{entry(then), was},
				{fmt.Sprintf("readin 0 %d 0", from), "9"},
				{fmt.Sprintf("writein 0 %d 1 8", from), "0"},
				{fmt.Sprintf("read 0 %d 1", to), "8"},
				{fmt.Sprintf("read 0 %d 1", then), "0"},
				{"forget 0", "0"},
				{fmt.Sprintf("readin 0 %d 0", from), "0"},
				{fmt.Sprintf("writein 0 %d 2 7", from), "0"},
				{fmt.Sprintf("read 0 %d 2", then), "7"},
			})
			mem := changedMem(evenMem(impl.PageMax, 0), at, 2+2*then)
			mem[to], mem[then] = []int{9, 8, 0, 0}, []int{0, 0, 7, 0}
			if !sameMem(mems[0], mem) {
				t.Fatalf("behind an entry of %d that led to %d, and then to %d, the guest has %v", from, to, then, mems[0])
			}
		}
	}
}

func TestP110AnEntryThatIsTakenAwayLeadsWhereItLed(t *testing.T) {
	wantTalk(t, 2, talk{
		{"write 1 1 1 12", "0"},
		{"writein 1 5 3 63", "0"},
		{"write 1 1 1 0", "12"},
		{"readin 1 5 3", "63"},
		{"writein 1 5 3 62", "63"},
		{"forget 0", "0"},
		{"readin 1 5 3", "62"},
		{"forget 1", "0"},
		{"readin 1 5 3", "fault"},
		{"read 1 5 3", "62"},
	})
}

func TestP111BehindCarryAndOutTheTableLeads(t *testing.T) {
	for from, at := range tabPlaces() {
		for to := impl.TabLow; to < impl.PageMax; to++ {
			then := impl.TabLow + (to-impl.TabLow+1)%(impl.PageMax-impl.TabLow)
			for _, host := range []string{"carry", fmt.Sprint("out 0 ", to)} {
				wantTalk(t, 1, talk{
					{fmt.Sprintf("write 0 %d %d %d", at.page, at.off, 2+2*to), "0"},
					{fmt.Sprintf("writein 0 %d 0 9", from), "0"},
					{fmt.Sprintf("write 0 %d 0 5", then), "0"},
					{fmt.Sprintf("write 0 %d %d %d", at.page, at.off, 2+2*then), fmt.Sprint(2 + 2*to)},
					{fmt.Sprintf("readin 0 %d 0", from), "9"},
					{host, "0"},
					{fmt.Sprintf("readin 0 %d 0", from), "5"},
					{fmt.Sprintf("write 0 %d %d 0", at.page, at.off), fmt.Sprint(2 + 2*then)},
					{fmt.Sprintf("readin 0 %d 0", from), "5"},
					{"carry", "0"},
					{fmt.Sprintf("readin 0 %d 0", from), "fault"},
				})
			}
		}
	}
}

func TestP111OutOfAnotherPageLeavesTheShade(t *testing.T) {
	// No shade leads to the page of the table, nor to that of the other guest.
	wantTalk(t, 2, talk{
		{"write 0 0 0 6", "0"},
		{"writein 0 0 0 9", "0"},
		{"write 0 0 0 8", "6"},
		{"out 0 0", "0"},
		{"out 1 2", "0"},
		{"out 0 3", "0"},
		{"readin 0 0 0", "9"},
		{"out 0 2", "0"},
		{"readin 0 0 0", "0"},
	})
}

func TestP112ReadTellsWhatIsToldInTheEnd(t *testing.T) {
	for seed := range manyPlays / 3 {
		guests := guestsOf(seed)
		lines := thrownLines(seed, guests, textMost-len("read 0 0 0\n"))
		plain := hear(t, guests, textOf(lines...))
		for guest, mem := range memsOf(t, guests, plain.end) {
			for _, at := range places(impl.PageMax) {
				read := fmt.Sprintf("read %d %d %d", guest, at.page, at.off)
				got := hear(t, guests, textOf(append(slices.Clone(lines), read)...))
				if word := fmt.Sprint(mem[at.page][at.off]); got.told[len(lines)] != word || got.end != plain.end {
					t.Fatalf("behind\n%q\n%s tells %s, and in the end there is\n%q", lines, read, got.told[len(lines)], got.end)
				}
			}
		}
	}
}
