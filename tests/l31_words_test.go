package tests

import (
	"fmt"
	"slices"
	"strings"
	"testing"

	"loop.example/casket/impl"
)

// ahead are lines behind which each plain line of plainLines comes to something, whichever of them is first.
func ahead() []string {
	return []string{"write 0 0 0 6", "write 0 2 1 9", "write 1 2 1 9", "write 1 0 0 6"}
}

// plainLines are lines of each form that come to something behind those, with what is told of each.
func plainLines() talk {
	return talk{
		{"read 0 2 1", "9"}, {"write 0 2 1 8", "9"}, {"readin 1 0 1", "9"}, {"writein 1 0 1 7", "9"},
		{"forget 1", "0"}, {"out 1 2", "0"}, {"join", "0"}, {"move 3", "0"}, {"carry", "0"},
	}
}

// behind are lines that show in what comes of them what the host is.
func behind() []string {
	return []string{"move 0", "move 3", "join", "move 1", "readin 1 0 1", "join", "move 2", "writein 0 0 1 5", "move 4", "readin 0 0 1", "join"}
}

// amid is what is told of lines, and then of those behind, and in the end.
func amid(t *testing.T, lines ...string) (told []string, then []string) {
	t.Helper()
	got := hear(t, 2, textOf(slices.Concat(ahead(), lines, behind())...))
	from, to := len(ahead()), len(ahead())+len(lines)
	return got.told[from:to], append(got.told[to:], got.end)
}

// wantLine fails if of a line something else is told, or behind it not the same comes as behind the plain one.
func wantLine(t *testing.T, line, told, plain string) {
	t.Helper()
	got, gotThen := amid(t, line)
	_, wantThen := amid(t, plain)
	if got[0] != told || !slices.Equal(gotThen, wantThen) {
		t.Fatalf("of %q is told %q, then %q; of %q has to be told %q, then %q", line, got, gotThen, plain, told, wantThen)
	}
	wantText(t, 2, textOf(slices.Concat(ahead(), []string{line}, behind())...))
}

// wantStays fails if of any of these lines something else is told, or the host does not stay.
func wantStays(t *testing.T, told string, lines ...string) {
	t.Helper()
	_, wantThen := amid(t)
	room := textMost - len(textOf(append(ahead(), behind()...)...))
	for len(lines) > 0 {
		count, size := 0, 0
		for count < len(lines) && size+len(lines[count])+1 <= room {
			size += len(lines[count]) + 1
			count++
		}
		if count == 0 {
			t.Fatalf("%q is too long for a test", lines[0])
		}
		some := lines[:count]
		got, gotThen := amid(t, some...)
		for i, line := range some {
			if got[i] != told {
				t.Fatalf("of %q is told %q, and has to be %q", line, got[i], told)
			}
		}
		if !slices.Equal(gotThen, wantThen) {
			t.Fatalf("behind %q is told %q, and has to be %q", some, gotThen, wantThen)
		}
		wantText(t, 2, textOf(slices.Concat(ahead(), some, behind())...))
		lines = lines[count:]
	}
}

func TestPlainLinesComeToSomething(t *testing.T) {
	words := map[string]bool{}
	for _, p := range plainLines() {
		words[wordsOf(p.line)[0]] = true
		wantLine(t, p.line, p.told, p.line)
	}
	if len(words) != len(forms()) {
		t.Errorf("there are plain lines of just %v", words)
	}
}

// spaced is a line with so many blanks more ahead of its word at that place.
func spaced(line string, at, more int) string {
	words := wordsOf(line)
	words[at] = strings.Repeat(" ", more) + words[at]
	return strings.Join(words, " ")
}

func TestABlankTooManyAheadOfANumber(t *testing.T) {
	for _, p := range plainLines() {
		words := wordsOf(p.line)
		for at := 1; at < len(words); at++ {
			var lines []string
			for _, more := range []int{1, 2, 3, 4, 5, 60, 99} {
				line := spaced(p.line, at, more)
				lines = append(lines, line, line+" ", line+"  ", line+" 0 0 0 0")
			}
			for then := at + 1; then < len(words); then++ {
				lines = append(lines, spaced(spaced(p.line, then, 1), at, 1))
			}
			wantStays(t, "bad", lines...)
		}
	}
}

func TestABlankAheadOfTheFirstWord(t *testing.T) {
	for _, p := range plainLines() {
		var lines []string
		for _, more := range []int{1, 2, 3, 4, 5, 60, 99} {
			line := spaced(p.line, 0, more)
			lines = append(lines, line, line+" ", strings.ReplaceAll(line, " ", "  "))
		}
		wantStays(t, "what", lines...)
	}
}

func TestBlanksBehindTheLastWord(t *testing.T) {
	for _, p := range plainLines() {
		for _, more := range []int{1, 2, 3, 60, 99} {
			wantLine(t, p.line+strings.Repeat(" ", more), p.told, p.line)
		}
	}
}

func TestAnEmptyWordTakesItsPlace(t *testing.T) {
	// With the empty word left out each of these lines would be whole, of other numbers.
	wantStays(t, "bad", "read  0 2 1", "read 0  2 1", "read 0 2  1", "write 0  0 2 1", "readin  1 0 1", "writein 1 0  1 7", "forget  1", "out  1 2", "out 1  2", "move  3")
	wantTalk(t, 1, talk{{"write 0 3 3  3", "bad"}, {"read 0 3 3", "0"}, {"write 0 3 3 4 ", "0"}, {"write 0 3  3 5", "bad"}, {"read 0 3 3", "4"}, {" read 0 3 3", "what"}, {"read  0 0 0", "bad"}, {"read 0 0 ", "bad"}})
	mems := wantTalk(t, 2, talk{{"write 1 3 3  3", "bad"}, {"write 1 363 63", "bad"}, {"write 1 3 3 63", "0"}})
	if !sameMem(mems[0], evenMem(impl.PageMax, 0)) || !sameMem(mems[1], changedMem(evenMem(impl.PageMax, 0), place{3, 3}, 63)) {
		t.Errorf("guests have %v", mems)
	}
}

func TestWhatIsNoBlankIsPartOfAWord(t *testing.T) {
	for _, p := range plainLines() {
		word, rest, more := strings.Cut(p.line, " ")
		var lines []string
		for b := range 256 {
			one := string([]byte{byte(b)})
			if b == ' ' || b == '\n' {
				continue
			}
			if lines = append(lines, one+p.line, one+" "+p.line, word+one+strings.TrimPrefix(p.line, word)); !more {
				continue
			}
			// Of "read" and "readin" one goes on like the other, but there is more than one letter between.
			lines = append(lines, word+one+rest)
		}
		wantStays(t, "what", lines...)
	}
}

func TestBlanksOfOtherKindsCutNothing(t *testing.T) {
	for _, blank := range []string{"\t", "\v", "\f", "\r", "\x00", "\x85", "\xa0", "\xc0\xa0", "\u0085", "\u00a0", "\u1680", "\u2003", "\u2028", "\u2029", "\u3000", "\ufeff", "_", ",", ";"} {
		for _, p := range plainLines() {
			if !strings.Contains(p.line, " ") {
				continue
			}
			wantStays(t, "what", strings.ReplaceAll(p.line, " ", blank), blank+p.line)
			// The last number has it at its end, and is none.
			wantStays(t, "bad", p.line+blank)
		}
	}
}

func TestWordsThatAreNoneOfTheList(t *testing.T) {
	words := oddWords()
	for _, f := range forms() {
		for at := range f.word {
			words = append(words, f.word[:at]+"z"+f.word[at+1:])
			cut := f.word[:at]
			if _, listed := formOf(cut); !listed && at > 0 {
				words = append(words, cut, cut+" "+f.word[at:])
			}
		}
	}
	for _, word := range words {
		var lines []string
		for _, numbers := range []string{"", " 0", " 0 2 1", " 0 2 1 9", " join", " read 0 0 0"} {
			lines = append(lines, word+numbers)
		}
		wantStays(t, "what", lines...)
	}
}

func TestWordsThatBeginAlike(t *testing.T) {
	wantStays(t, "bad", "read in 0 0 0", "write in 0 0 0 0")
	wantStays(t, "what", "readi 0 0 0", "writei 0 0 0 0", "readinn 0 0 0", "in 0 0 0")
	// The table of guest 1 leads from page 0 to page 2, where 9 stands.
	for _, p := range (talk{{"read 1 0 1", "0"}, {"readin 1 0 1", "9"}, {"write 1 0 1 7", "0"}, {"writein 1 0 1 7", "9"}}) {
		wantLine(t, p.line, p.told, p.line)
	}
}

func TestEmptyLinesAreNone(t *testing.T) {
	wantStays(t, "what", "", " ", "  ", strings.Repeat(" ", 200))
}

func TestFurtherWordsDoNotCount(t *testing.T) {
	for _, p := range plainLines() {
		for _, more := range []string{"0", "9", "63", "64", "100", "-1", "x", "join", "carry", "\t", "\x00", "\xff", "0 0 0 0 0 0", "x y z", "what", strings.Repeat("q ", 150)} {
			wantLine(t, p.line+" "+more, p.told, p.line)
			wantLine(t, p.line+"   "+more+"  ", p.told, p.line)
		}
	}
}

// withNumber is a line with another word at that place.
func withNumber(line string, at int, word string) string {
	words := wordsOf(line)
	words[at] = word
	return strings.Join(words, " ")
}

func TestNumbersOfOneFigureAndOfTwo(t *testing.T) {
	for _, p := range plainLines() {
		words := wordsOf(p.line)
		for at := 1; at < len(words); at++ {
			wantLine(t, withNumber(p.line, at, "0"+words[at]), p.told, p.line)
		}
		long := words[0]
		for _, word := range words[1:] {
			long += " 0" + word
		}
		wantLine(t, long, p.told, p.line)
	}
	for word := range 100 {
		one, two := fmt.Sprintf("write 0 2 1 %d", word), fmt.Sprintf("write 00 02 01 %02d", word)
		if !isWord(word) {
			wantStays(t, "bad", one, two)
			continue
		}
		wantLine(t, one, "9", one)
		wantLine(t, two, "9", one)
	}
}

func TestEachNumberIsReadAsItIs(t *testing.T) {
	for word := range 64 {
		for _, write := range []string{fmt.Sprintf("write 0 3 2 %d", word), fmt.Sprintf("write 0 3 2 %02d", word)} {
			mems := wantTalk(t, 1, talk{{write, "0"}, {"read 0 3 2", fmt.Sprint(word)}, {"read 00 03 02", fmt.Sprint(word)}})
			if mems[0][3][2] != word {
				t.Fatalf("behind %q guest 0 has %v", write, mems[0])
			}
		}
	}
	wantTalk(t, 1, talk{{"write 0 3 2 00", "0"}, {"write 0 3 2 07", "0"}, {"write 0 3 2 7", "7"}, {"write 0 3 2 70", "bad"}, {"write 0 3 2 63", "7"}, {"write 0 3 2 64", "bad"}, {"write 0 3 2 36", "63"}})
}

func TestNumbersThatAreNone(t *testing.T) {
	for _, p := range plainLines() {
		words := wordsOf(p.line)
		for at := 1; at < len(words); at++ {
			var lines []string
			for _, number := range noNumbers() {
				lines = append(lines, withNumber(p.line, at, number), withNumber(p.line, at, number)+"  0 0 0 0")
			}
			for b := range 256 {
				if b == ' ' || b == '\n' || b >= '0' && b <= '9' {
					continue
				}
				one := string([]byte{byte(b)})
				for _, number := range []string{one, one + words[at], words[at] + one, one + one} {
					lines = append(lines, withNumber(p.line, at, number))
				}
			}
			wantStays(t, "bad", lines...)
		}
	}
}

func TestNumbersThatAreMissing(t *testing.T) {
	for _, p := range plainLines() {
		words := wordsOf(p.line)
		for at := 1; at < len(words); at++ {
			short := strings.Join(words[:at], " ")
			wantStays(t, "bad", short, short+" ", short+"  ", short+"   ")
			// Left out, with both blanks of it, or with one: what is behind comes one place ahead then, and the last one is missing.
			wantStays(t, "bad", withNumber(p.line, at, ""), strings.Join(slices.Delete(slices.Clone(words), at, at+1), " "))
		}
	}
}

func TestNumbersOfWhatThereIsNoneOf(t *testing.T) {
	for _, p := range plainLines() {
		words := wordsOf(p.line)
		for at := 1; at < len(words); at++ {
			numbers := []string{"08", "8", "9", "09", "10", "16", "32", "63", "64", "65", "90", "98", "99"}
			if at == 4 {
				numbers = []string{"64", "65", "70", "90", "98", "99"}
			}
			for _, number := range numbers {
				wantStays(t, "bad", withNumber(p.line, at, number))
			}
		}
	}
	edges := talk{
		{"read 1 5 3", "0"}, {"read 2 5 3", "bad"}, {"read 1 6 3", "bad"}, {"read 1 5 4", "bad"},
		{"readin 1 5 3", "fault"}, {"readin 2 5 3", "bad"}, {"readin 1 6 3", "bad"}, {"readin 1 5 4", "bad"},
		{"write 1 5 3 63", "0"}, {"write 2 5 3 63", "bad"}, {"write 1 6 3 63", "bad"}, {"write 1 5 4 63", "bad"}, {"write 1 5 3 64", "bad"},
		{"writein 1 5 3 63", "fault"}, {"writein 2 5 3 63", "bad"}, {"writein 1 6 3 63", "bad"}, {"writein 1 5 4 63", "bad"}, {"writein 1 5 3 64", "bad"},
		{"forget 1", "0"}, {"forget 2", "bad"}, {"out 1 5", "0"}, {"out 2 5", "bad"}, {"out 1 6", "bad"},
		{"move 8", "bad"}, {"move 7", "bad"}, {"read 1 5 3", "63"},
	}
	wantTalk(t, 2, edges)
}
