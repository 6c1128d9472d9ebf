package tests

import (
	"testing"

	"loop.example/casket/impl"
)

func TestKnownTableIsFollowed(t *testing.T) {
	// 2w of page 0, 3 of page 1, nothing of page 2, 2 of page 3, and, told on page 1, 5w of page 4 and 4 of page 5.
	mem := [][]int{{6, 7, 0, 5}, {12, 9, 6, 6}, {20, 21, 22, 23}, {30, 31, 32, 33}, {40, 41, 42, 43}, {50, 51, 52, 53}}
	cases := []struct {
		page, off, read, written int
	}{
		{0, 0, 20, 20},
		{0, 3, 23, 23},
		{1, 1, 31, impl.GotDenied},
		{2, 0, impl.GotFault, impl.GotFault},
		{3, 2, 22, impl.GotDenied},
		{4, 3, 53, 53},
		{5, 1, 41, impl.GotDenied},
		{-1, 0, impl.GotBad, impl.GotBad},
		{6, 0, impl.GotBad, impl.GotBad},
		{2, 4, impl.GotBad, impl.GotBad},
		{2, -1, impl.GotBad, impl.GotBad},
	}
	for _, c := range cases {
		if got := impl.FlatReadIn(mem, c.page, c.off); got != c.read {
			t.Errorf("FlatReadIn at %d, %d is %d, and has to be %d", c.page, c.off, got, c.read)
		}
		if got := writeIn(mem, place{c.page, c.off}, 1).told; got != c.written {
			t.Errorf("FlatWriteIn at %d, %d tells %d, and has to tell %d", c.page, c.off, got, c.written)
		}
	}
}

func TestP23FlatReadIn(t *testing.T) {
	for _, mem := range flatMems() {
		tab := impl.MemTab(mem)
		for _, at := range places(impl.PageMax) {
			want := impl.GotFault
			if to, ok := led(mem, at); ok {
				want = mem[to.page][to.off]
			}
			got := impl.FlatReadIn(mem, at.page, at.off)
			if got != want {
				t.Fatalf("FlatReadIn(%v, %d, %d) is %d, and has to be %d", mem, at.page, at.off, got, want)
			}
			if e := tab[at.page]; e.Has && got != impl.FlatRead(mem, e.Page, at.off) {
				t.Fatalf("FlatReadIn(%v, %d, %d) is %d, and not FlatRead of page %d", mem, at.page, at.off, got, e.Page)
			}
		}
	}
}

func TestP23EachWordAtEachPlaceOfTheTable(t *testing.T) {
	for page, at := range tabPlaces() {
		for word := range impl.WordMax + 1 {
			mem := changedMem(entryMem(page, impl.Entry{}), at, word)
			for other := range impl.PageMax {
				want := impl.GotFault
				if e, known := givenWords[word]; known && other == page {
					want = mem[e.Page][3]
				}
				if got := impl.FlatReadIn(mem, other, 3); got != want {
					t.Errorf("with %d at %v page %d is read as %d, and has to be %d", word, at, other, got, want)
				}
			}
		}
	}
}

func TestP24FlatWriteIn(t *testing.T) {
	for _, mem := range flatMems() {
		tab := toldTab(mem)
		for _, at := range places(impl.PageMax) {
			to, ok := led(mem, at)
			if !ok || !tab[at.page].Write {
				continue
			}
			for _, word := range someWords() {
				got := writeIn(mem, at, word)
				wantWritten(t, got, written{changedMem(mem, to, word), mem[to.page][to.off]}, mem, at, word)
				wantWritten(t, got, writeTo(mem, to, word), mem, at, word)
				if read := impl.FlatReadIn(got.mem, at.page, at.off); read != word || !same(impl.MemTab(got.mem), tab) {
					t.Fatalf("behind FlatWriteIn(%v, %v, %d) %d is read, and the table is %v", mem, at, word, read, impl.MemTab(got.mem))
				}
			}
		}
	}
}

func TestP25FaultAndDenied(t *testing.T) {
	for _, mem := range flatMems() {
		tab := toldTab(mem)
		for _, at := range places(impl.PageMax) {
			for _, word := range someWords() {
				got, e := writeIn(mem, at, word), tab[at.page]
				if (got.told == impl.GotFault) != !e.Has || (got.told == impl.GotDenied) != (e.Has && !e.Write) {
					t.Fatalf("FlatWriteIn(%v, %v, %d) tells %d, and the entry is %v", mem, at, word, got.told, e)
				}
				if !isWord(got.told) && !sameMem(got.mem, mem) {
					t.Fatalf("FlatWriteIn(%v, %v, %d) tells %d, and the memory is %v", mem, at, word, got.told, got.mem)
				}
			}
		}
	}
}

func TestP25DeniedThoughTheWordIsThere(t *testing.T) {
	for page := range impl.PageMax {
		for to := impl.TabLow; to < impl.PageMax; to++ {
			mem, at := entryMem(page, impl.Entry{Has: true, Page: to}), place{page, 1}
			wantWritten(t, writeIn(mem, at, mem[to][1]), written{mem, impl.GotDenied}, mem, at, mem[to][1])
		}
	}
}

func TestP26PagesThatLeadToOne(t *testing.T) {
	shared := 0
	for _, mem := range flatMems() {
		tab := toldTab(mem)
		for page, e := range tab {
			if !e.Write {
				continue
			}
			for off := range impl.OffMax {
				got := writeIn(mem, place{page, off}, 61).mem
				for _, other := range leadsTo(tab, e.Page) {
					if read := impl.FlatReadIn(got, other, off); read != 61 {
						t.Fatalf("61 written by page %d of %v is read by page %d as %d", page, mem, other, read)
					}
					if other != page {
						shared++
					}
				}
			}
		}
	}
	if shared == 0 {
		t.Error("no two pages lead to one")
	}
}

func TestP26TwoPagesOneOfWhichMayNotBeWritten(t *testing.T) {
	// Page 0 may write page 3, page 5, told on page 1, may only read it.
	mem := entryMem(0, impl.Entry{Has: true, Page: 3, Write: true})
	mem[1][1] = 7
	got := writeIn(mem, place{0, 2}, 17)
	if got.told != mem[3][2] || impl.FlatReadIn(got.mem, 5, 2) != 17 {
		t.Errorf("17 written by page 0 of %v: %v", mem, got)
	}
	if told := writeIn(got.mem, place{5, 2}, 18).told; told != impl.GotDenied {
		t.Errorf("page 5 of %v is written: %d", got.mem, told)
	}
}

func TestP27AnEntryMadeIsFollowed(t *testing.T) {
	for _, mem := range fewMems() {
		for page, at := range tabPlaces() {
			for _, e := range givenEntries()[1:] {
				got := writeTo(mem, at, impl.EntryNum(e)).mem
				for off := range impl.OffMax {
					read := impl.FlatReadIn(got, page, off)
					if read != impl.FlatRead(got, e.Page, off) || read != mem[e.Page][off] {
						t.Fatalf("with %v made of page %d of %v %d is read at %d", e, page, mem, read, off)
					}
				}
			}
		}
	}
}

func TestP27AnEntryTakenAwayIsNotFollowed(t *testing.T) {
	for _, mem := range fewMems() {
		for page, at := range tabPlaces() {
			for word := range impl.WordMax + 1 {
				if _, known := givenWords[word]; known {
					continue
				}
				got := writeTo(mem, at, word).mem
				if read := impl.FlatReadIn(got, page, 0); read != impl.GotFault {
					t.Fatalf("with %d for page %d of %v %d is read", word, page, mem, read)
				}
			}
		}
	}
}

func TestP29FlatReadInBehindTheTableOfItself(t *testing.T) {
	for _, mem := range flatMems() {
		over := impl.TabOver(impl.MemTab(mem), selfTab())
		for _, at := range places(impl.PageMax) {
			got, e := impl.FlatReadIn(mem, at.page, at.off), impl.TabAt(over, at.page)
			if isWord(got) != e.Has {
				t.Fatalf("FlatReadIn(%v, %v) is %d, and the entry is %v", mem, at, got, e)
			}
			if isWord(got) && got != impl.FlatRead(mem, e.Page, at.off) {
				t.Fatalf("FlatReadIn(%v, %v) is %d, and FlatRead of page %d is not", mem, at, got, e.Page)
			}
		}
	}
}

func TestP30TwoWordsAtOnePlace(t *testing.T) {
	for _, mem := range fewMems() {
		for _, at := range places(impl.PageMax) {
			for _, first := range []int{0, 9, impl.WordMax} {
				for _, second := range someWords() {
					once, want := writeIn(mem, at, first), writeIn(mem, at, second)
					if isWord(want.told) {
						want.told = first
					}
					wantWritten(t, writeIn(once.mem, at, second), want, once.mem, at, second)
				}
			}
		}
	}
}

func TestP24TheTableIsOutOfReach(t *testing.T) {
	// Words that would lead to the pages that tell the table lead nowhere: a guest's own guest cannot change it.
	for page, at := range tabPlaces() {
		for word := range 5 {
			mem, in := changedMem(evenMem(impl.PageMax, 12), at, word), place{page, 0}
			wantWritten(t, writeIn(mem, in, 6), written{mem, impl.GotFault}, mem, in, 6)
		}
	}
}
