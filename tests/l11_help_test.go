package tests

import (
	"testing"

	"loop.example/casket/impl"
)

// entryMem is a guest's memory that tells just that entry, of that page; every other word leads nowhere, and each is another one.
func entryMem(page int, e impl.Entry) [][]int {
	mem := evenMem(impl.PageMax, 0)
	for i, at := range places(impl.PageMax) {
		mem[at.page][at.off] = impl.WordMax - i
	}
	at := tabPlaces()[page]
	mem[at.page][at.off] = impl.EntryNum(e)
	return mem
}

// givenEntries are nothing, and all entries that a guest may give.
func givenEntries() []impl.Entry {
	entries := []impl.Entry{{}}
	for page := impl.TabLow; page < impl.PageMax; page++ {
		entries = append(entries, impl.Entry{Has: true, Page: page}, impl.Entry{Has: true, Page: page, Write: true})
	}
	return entries
}

// flatMems are guests' memories, with each entry of each page alone among them.
func flatMems() [][][]int {
	mems := guestMems()
	for page := range impl.PageMax {
		for _, e := range givenEntries() {
			mems = append(mems, entryMem(page, e))
		}
	}
	return mems
}

// fewMems are guests' memories for what is asked at each place, and once more behind that.
func fewMems() [][][]int {
	return append([][][]int{evenMem(impl.PageMax, 0), evenMem(impl.PageMax, 6), evenMem(impl.PageMax, 11), mixedMem(impl.PageMax, 5)}, guestMems()[130:150]...)
}

// noGuests are memories of no guest: not ok, or with pages too few or too many.
func noGuests() [][][]int {
	mems := append(wrongMems(), nil, [][]int{})
	for _, pages := range []int{1, impl.TabLow, impl.PageMax - 1, impl.PageMax + 1, 2 * impl.PageMax, 100} {
		mems = append(mems, evenMem(pages, 0), evenMem(pages, 6), evenMem(pages, impl.WordMax), mixedMem(pages, 3))
	}
	return mems
}

// led is the place of the guest's memory that is meant by one of its own guest's; nothing is meant, if it is false.
func led(mem [][]int, at place) (place, bool) {
	e := toldTab(mem)[at.page]
	return place{e.Page, at.off}, e.Has
}

// written is what comes of writing: the memory then, and what is told.
type written struct {
	mem  [][]int
	told int
}

// writeTo is FlatWrite, writeIn is FlatWriteIn, as one answer.
func writeTo(mem [][]int, at place, word int) written {
	got, told := impl.FlatWrite(mem, at.page, at.off, word)
	return written{got, told}
}

func writeIn(mem [][]int, at place, word int) written {
	got, told := impl.FlatWriteIn(mem, at.page, at.off, word)
	return written{got, told}
}

// wantWritten fails if an answer is not what it has to be; the rest says of what it is one.
func wantWritten(t *testing.T, got, want written, mem [][]int, at place, word int) {
	t.Helper()
	if got.told != want.told || !sameMem(got.mem, want.mem) {
		t.Fatalf("%d written at %v of %v is %v, and has to be %v", word, at, mem, got, want)
	}
}

// wantAllBad fails if any of the four is not GotBad, or changes memory.
func wantAllBad(t *testing.T, mem [][]int, at place, word int) {
	t.Helper()
	wantReadsBad(t, mem, at)
	wantWritesBad(t, mem, at, word)
}

func wantReadsBad(t *testing.T, mem [][]int, at place) {
	t.Helper()
	if got := impl.FlatRead(mem, at.page, at.off); got != impl.GotBad {
		t.Fatalf("FlatRead(%v, %d, %d) is %d, and has to be bad", mem, at.page, at.off, got)
	}
	if got := impl.FlatReadIn(mem, at.page, at.off); got != impl.GotBad {
		t.Fatalf("FlatReadIn(%v, %d, %d) is %d, and has to be bad", mem, at.page, at.off, got)
	}
}

func wantWritesBad(t *testing.T, mem [][]int, at place, word int) {
	t.Helper()
	bad := written{copyMem(mem), impl.GotBad}
	wantWritten(t, writeTo(mem, at, word), bad, mem, at, word)
	wantWritten(t, writeIn(mem, at, word), bad, mem, at, word)
}

// leadsTo are the pages of the guest's own guest that lead to that one.
func leadsTo(tab []impl.Entry, page int) []int {
	var pages []int
	for from, e := range tab {
		if e.Has && e.Page == page {
			pages = append(pages, from)
		}
	}
	return pages
}

// edgePages, edgeOffs and edgeWords are what the document names: the first and the last that there are, and those beside them.
func edgePages() []int {
	return []int{-1, 0, impl.TabLow - 1, impl.TabLow, impl.PageMax - 1, impl.PageMax}
}

func edgeOffs() []int {
	return []int{-1, 0, impl.OffMax - 1, impl.OffMax}
}

func edgeWords() []int {
	return []int{-1, 0, impl.WordMax, impl.WordMax + 1}
}

// isWord says whether what is told is a word, not what is wrong.
func isWord(told int) bool {
	return told >= 0 && told <= impl.WordMax
}
