package tests

import (
	"fmt"
	"slices"
	"strconv"
	"strings"
	"testing"

	"loop.example/casket/impl"
)

// textMost is how many bytes a text may have.
const textMost = 800

// form is a line of the list: its first word, the kind of its act, and how many numbers it has.
type form struct {
	word    string
	kind    int
	numbers int
}

func forms() []form {
	return []form{
		{"read", impl.ActRead, 3}, {"write", impl.ActWrite, 4}, {"readin", impl.ActReadIn, 3}, {"writein", impl.ActWriteIn, 4},
		{"forget", impl.ActForget, 1}, {"out", impl.ActOut, 2}, {"join", impl.ActJoin, 0}, {"move", impl.ActMove, 1}, {"carry", impl.ActCarry, 0},
	}
}

// formOf is the form of that first word; false, if it is not of the list.
func formOf(word string) (form, bool) {
	for _, f := range forms() {
		if f.word == word {
			return f, true
		}
	}
	return form{}, false
}

// wordsOf are what stands between blanks, ahead of the first, and behind the last one, were it nothing.
func wordsOf(line string) []string {
	words := []string{""}
	for at := range len(line) {
		if line[at] == ' ' {
			words = append(words, "")
		} else {
			words[len(words)-1] += line[at : at+1]
		}
	}
	return words
}

// numberTexts are all numbers that there are, by how they are written in one figure, or in two.
var numberTexts = func() map[string]int {
	texts := map[string]int{}
	for number := range 100 {
		texts[fmt.Sprintf("%d", number)], texts[fmt.Sprintf("%02d", number)] = number, number
	}
	return texts
}()

// numberText is the number that stands at that place, or -1.
func numberText(words []string, at int) int {
	if at >= len(words) {
		return -1
	}
	if number, ok := numberTexts[words[at]]; ok {
		return number
	}
	return -1
}

// saidAct is the act of a line; false, if it says none.
func saidAct(line string) (impl.Act, bool) {
	words := wordsOf(line)
	f, ok := formOf(words[0])
	a := impl.Act{Kind: f.kind}
	places := []*int{&a.Guest, &a.Page, &a.Off, &a.Word}
	if f.kind == impl.ActMove {
		places = []*int{&a.Page}
	}
	for i := range f.numbers {
		*places[i] = numberText(words, i+1)
	}
	return a, ok
}

// tellOf is how it is told what came of an act.
func tellOf(told int) string {
	switch told {
	case impl.GotFault:
		return "fault"
	case impl.GotDenied:
		return "denied"
	case impl.GotBad:
		return "bad"
	}
	return strconv.Itoa(told)
}

// lineTold is the host behind a line, and what is told of it.
func lineTold(h impl.Host, line string) (impl.Host, string) {
	a, ok := saidAct(line)
	if !ok {
		return h, "what"
	}
	got := doneOf(h, a)
	return got.h, tellOf(got.told)
}

// endTold is what is told in the end, of guests who have such memory.
func endTold(mems ...[][]int) string {
	var text strings.Builder
	for guest, mem := range mems {
		fmt.Fprintf(&text, "guest %d\n", guest)
		for _, words := range mem {
			fmt.Fprintf(&text, "%d %d %d %d\n", words[0], words[1], words[2], words[3])
		}
	}
	return text.String()
}

// seenMems is what all guests of an ok host have.
func seenMems(h impl.Host) [][][]int {
	var mems [][][]int
	for guest := range h.Guests {
		mems = append(mems, seenMem(h, guest))
	}
	return mems
}

// textTold is what LinesRun has to answer.
func textTold(guests int, text string) string {
	if guests < 1 || guests > impl.GuestMax {
		return "no guests\n"
	}
	if len(text) > textMost {
		return "too long\n"
	}
	h, told := newHost(guests), ""
	lines := strings.Split(text, "\n")
	for _, line := range lines[:len(lines)-1] {
		next, tell := lineTold(h, line)
		h, told = next, told+tell+"\n"
	}
	return told + endTold(seenMems(h)...)
}

// wantText fails if LinesRun does not answer what it has to.
func wantText(t *testing.T, guests int, text string) {
	t.Helper()
	if got, want := impl.LinesRun(guests, text), textTold(guests, text); got != want {
		t.Fatalf("LinesRun of %d guests, and\n%q, is\n%q, and has to be\n%q", guests, text, got, want)
	}
}

// textOf are lines, each with its newline.
func textOf(lines ...string) string {
	text := ""
	for _, line := range lines {
		text += line + "\n"
	}
	return text
}

// heard is an answer of LinesRun, taken apart: what is told of each line, and what is told in the end.
type heard struct {
	told []string
	end  string
}

// hear fails if what is told in the end is not of so many guests, each with so many pages.
func hear(t *testing.T, guests int, text string) heard {
	t.Helper()
	lines := strings.SplitAfter(impl.LinesRun(guests, text), "\n")
	ends := guests * (1 + impl.PageMax)
	if count := strings.Count(text, "\n"); len(lines) != count+ends+1 || lines[len(lines)-1] != "" {
		t.Fatalf("LinesRun of %d guests, and\n%q, is\n%q: these are not %d lines", guests, text, lines, count+ends)
	}
	lines = lines[:len(lines)-1]
	all := heard{end: strings.Join(lines[len(lines)-ends:], "")}
	for _, line := range lines[:len(lines)-ends] {
		all.told = append(all.told, strings.TrimSuffix(line, "\n"))
	}
	if mems := memsOf(t, guests, all.end); endTold(mems...) != all.end {
		t.Fatalf("in the end of\n%q\n%q is told", text, all.end)
	}
	return all
}

// memsOf reads what is told in the end.
func memsOf(t *testing.T, guests int, end string) [][][]int {
	t.Helper()
	lines := strings.Split(end, "\n")
	mems := make([][][]int, guests)
	for guest := range mems {
		for at := range impl.PageMax {
			var a, b, c, d int
			if _, err := fmt.Sscanf(lines[guest*(1+impl.PageMax)+1+at], "%d %d %d %d", &a, &b, &c, &d); err != nil {
				t.Fatalf("page %d of guest %d: %v in\n%q", at, guest, err, end)
			}
			mems[guest] = append(mems[guest], []int{a, b, c, d})
		}
	}
	return mems
}

// talk are lines, and what has to be told of each.
type talk []struct{ line, told string }

// wantTalk fails if of any of the lines something else is told; what is told in the end is handed back.
func wantTalk(t *testing.T, guests int, said talk) [][][]int {
	t.Helper()
	var lines, told []string
	for _, s := range said {
		lines, told = append(lines, s.line), append(told, s.told)
	}
	text := textOf(lines...)
	got := hear(t, guests, text)
	if !slices.Equal(got.told, told) {
		t.Fatalf("of\n%q is told\n%q, and has to be\n%q", lines, got.told, told)
	}
	wantText(t, guests, text)
	return memsOf(t, guests, got.end)
}

// lineOf is the line that says an act; one of no kind is no line of the list.
func lineOf(a impl.Act) string {
	numbers := []int{a.Guest, a.Page, a.Off, a.Word}
	if a.Kind == impl.ActMove {
		numbers = []int{a.Page}
	}
	for _, f := range forms() {
		if f.kind != a.Kind {
			continue
		}
		line := f.word
		for _, number := range numbers[:f.numbers] {
			line += fmt.Sprintf(" %d", number)
		}
		return line
	}
	return fmt.Sprint("act ", a.Kind)
}

// linesOf are lines that say acts, as many as a text may have in so many bytes.
func linesOf(acts []impl.Act, most int) []string {
	var lines []string
	size := 0
	for _, a := range acts {
		line := lineOf(a)
		size += len(line) + 1
		if size > most {
			break
		}
		lines = append(lines, line)
	}
	return lines
}

// thrownLines are plain lines of all kinds, in so many bytes.
func thrownLines(seed, guests, most int) []string {
	return linesOf(thrownActs(seed, guests, most/5), most)
}

// looseLine is a line of thrown words, most of them in their place.
func (d *dice) looseLine() string {
	f := forms()[d.roll(len(forms()))]
	words := []string{f.word}
	if d.roll(12) == 0 {
		words[0] = oddWords()[d.roll(len(oddWords()))]
	}
	for range f.numbers + d.roll(3) - d.roll(2) {
		words = append(words, d.looseNumber())
	}
	line := strings.Repeat(" ", d.roll(16)/15)
	for _, word := range words {
		line += word + strings.Repeat(" ", 1+d.roll(12)/11)
	}
	if d.coin() {
		line = strings.TrimRight(line, " ")
	}
	return line
}

func (d *dice) looseNumber() string {
	switch d.roll(24) {
	case 0:
		return noNumbers()[d.roll(len(noNumbers()))]
	case 1:
		return fmt.Sprint(d.roll(100))
	case 2, 3:
		return fmt.Sprintf("%02d", d.roll(7))
	case 4, 5, 6, 7, 8, 9, 10:
		return "0"
	}
	return fmt.Sprint(d.roll(6))
}

// looseText are lines of thrown words, with something behind the last newline.
func looseText(seed int) string {
	d := &dice{uint64(seed)*8111 + 5}
	d.roll(2)
	text := ""
	for {
		line := d.looseLine() + "\n"
		if len(text+line) > textMost-10 {
			return text + strings.Repeat("j", d.roll(10))
		}
		text += line
	}
}

// byteText are thrown bytes of all kinds, most of them such as stand in lines.
func byteText(seed int) string {
	d := &dice{uint64(seed)*3331 + 7}
	d.roll(2)
	var text []byte
	for range d.roll(textMost + 1) {
		usual := "join\ncarry\nmove 0\n out 1 \n0 "
		if d.roll(4) == 0 {
			text = append(text, byte(d.roll(256)))
		} else {
			text = append(text, usual[d.roll(len(usual))])
		}
	}
	return string(text)
}

// oddWords are no words of the list, though most of them look like one.
func oddWords() []string {
	words := []string{"what", "bad", "fault", "denied", "guest", "hello", "0", "1", "-", "reads", "rea", "readi", "readins", "writ", "writei", "writeins", "for", "forge", "forgets", "ou", "outs", "joi", "joins", "joined", "mov", "moves", "carr", "carrys", "carry!", "read,", "read0", "read-in", "write_in", "r", "j", "\t", "\r", "\x00", "\xff", "é", "join\x00", "\x00join", "join\r", "\rjoin", "join\tjoin", "\tjoin", "join\t", "\vjoin", "join\f", "join\u00a0", "\u00a0join", "\u3000join", "\ufeffjoin", "jo\xffin", "join\xa0", "join\xc0\xa0", "join\x85", "ｊｏｉｎ"}
	for _, f := range forms() {
		words = append(words, strings.ToUpper(f.word), strings.ToUpper(f.word[:1])+f.word[1:], f.word[:len(f.word)-1]+strings.ToUpper(f.word[len(f.word)-1:]), f.word+f.word, f.word[1:], f.word+"0", f.word+"\t0")
	}
	return words
}

// noNumbers are words that are no numbers of one figure, or of two.
func noNumbers() []string {
	return []string{
		"000", "001", "010", "063", "100", "256", "0000", "00000000000000000000000000000000", "18446744073709551616", "18446744073709551617", "4294967296",
		"-", "+", "-1", "+1", "-0", "+0", "--", "-00", "+07", "1-", "1+", "0-1",
		"a", "x", "O", "l", "0x", "x0", "0x1", "1a", "a1", "1e", "e1", "1e1", "0b", "0o", "1_", "_1", "1_0", "1.", ".1", "1,", "1:", "1/", "/1", ":1", "/", ":", "'1", "\"1\"", "(1)", "1;",
		"\x00", "0\x00", "\x000", "\t0", "0\t", "\t", "0\r", "\r", "\v1", "1\f", "\x80", "\xff", "1\xff", "\xb1", "1\xb1", "\xb10", "\xff\xff", "\x010", "\x1f1", "0\x7f",
		"é", "½", "²", "１", "１１", "٣", "零", "1\u00a0", "\u00a01", "\ufeff1", "-\x00",
	}
}
