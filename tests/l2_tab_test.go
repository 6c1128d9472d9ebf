package tests

import (
	"testing"

	"loop.example/casket/impl"
)

// toldTab is what MemTab has to answer of a guest's ok memory.
func toldTab(mem [][]int) []impl.Entry {
	tab := emptyTab()
	for page, at := range tabPlaces() {
		tab[page] = givenWords[mem[at.page][at.off]]
	}
	return tab
}

func TestMemTabOfKnownMemory(t *testing.T) {
	cases := []struct {
		mem  [][]int
		want string
	}{
		{evenMem(impl.PageMax, 0), "- - - - - -\n"},
		{evenMem(impl.PageMax, impl.WordMax), "- - - - - -\n"},
		{evenMem(impl.PageMax, 12), "5w 5w 5w 5w 5w 5w\n"},
		{[][]int{{5, 6, 7, 8}, {9, 10, 11, 12}, {0, 0, 0, 0}, {0, 0, 0, 0}, {0, 0, 0, 0}, {0, 0, 0, 0}}, "2 2w 3 3w 4 4w\n"},
		{[][]int{{12, 11, 10, 9}, {8, 7, 6, 5}, {6, 6, 6, 6}, {6, 6, 6, 6}, {6, 6, 6, 6}, {6, 6, 6, 6}}, "5w 5 4w 4 3w 3\n"},
		// Words of no entry, and of the pages that tell the table.
		{[][]int{{0, 1, 2, 3}, {4, 13, 12, 12}, {12, 12, 12, 12}, {5, 5, 5, 5}, {6, 6, 6, 6}, {7, 7, 7, 7}}, "- - - - - -\n"},
		{[][]int{{4, 5, 12, 13}, {63, 6, 0, 0}, {1, 2, 3, 4}, {1, 2, 3, 4}, {1, 2, 3, 4}, {1, 2, 3, 4}}, "- 2 5w - - 2w\n"},
	}
	for _, c := range cases {
		if got := impl.TabText(impl.MemTab(c.mem)); got != c.want {
			t.Errorf("MemTab(%v) is %q, and has to be %q", c.mem, got, c.want)
		}
	}
}

func TestP17MemTab(t *testing.T) {
	for _, mem := range guestMems() {
		tab := impl.MemTab(mem)
		if !same(tab, toldTab(mem)) || !impl.TabOk(tab) {
			t.Fatalf("MemTab(%v) is %v, and has to be %v", mem, tab, toldTab(mem))
		}
		for page, at := range tabPlaces() {
			if tab[page] != impl.EntryOf(mem[at.page][at.off]) {
				t.Fatalf("MemTab(%v) has %v at %d", mem, tab[page], page)
			}
			if tab[page].Has && (tab[page].Page == 0 || tab[page].Page == 1) {
				t.Fatalf("MemTab(%v) leads to a page that tells it: %v", mem, tab[page])
			}
		}
	}
}

func TestP17EachWordAtEachPlaceOfTheTable(t *testing.T) {
	for page, at := range tabPlaces() {
		for word := range impl.WordMax + 1 {
			want := emptyTab()
			want[page] = givenWords[word]
			if got := impl.MemTab(changedMem(evenMem(impl.PageMax, 0), at, word)); !same(got, want) {
				t.Errorf("with %d at %v MemTab is %v, and has to be %v", word, at, got, want)
			}
		}
	}
}

func TestP17MemTabOfNoGuest(t *testing.T) {
	for _, pages := range []int{0, 1, 2, impl.PageMax - 1, impl.PageMax + 1, 2 * impl.PageMax, 100} {
		for _, mem := range [][][]int{evenMem(pages, 0), evenMem(pages, 8), mixedMem(pages, 2)} {
			wantNoTab(t, "MemTab of other than a guest's pages", impl.MemTab(mem))
		}
	}
	wantNoTab(t, "MemTab of nothing", impl.MemTab(nil))
	for _, mem := range wrongMems() {
		wantNoTab(t, "MemTab of wrong memory", impl.MemTab(mem))
	}
}

func TestP18MemWithBesideTheTableLeavesIt(t *testing.T) {
	// The table ends inside page 1: what is behind it there tells nothing either.
	beside := append(places(impl.PageMax)[impl.TabLow*impl.OffMax:], place{1, 2}, place{1, 3})
	for _, mem := range guestMems() {
		was := impl.MemTab(mem)
		for _, at := range beside {
			for _, word := range someWords() {
				if got := impl.MemTab(withWord(t, mem, at, word)); len(got) == 0 || !same(got, was) {
					t.Fatalf("%d at %v of %v: MemTab is %v, and was %v", word, at, mem, got, was)
				}
			}
		}
	}
}

func TestP18MemWithOfATableWordChangesThatEntryAlone(t *testing.T) {
	for _, mem := range guestMems() {
		was := impl.MemTab(mem)
		for page, at := range tabPlaces() {
			for word := range impl.WordMax + 1 {
				got := impl.MemTab(withWord(t, mem, at, word))
				if len(got) != impl.PageMax || !same(without(got, page), without(was, page)) {
					t.Fatalf("%d at %v of %v: MemTab is %v, and was %v", word, at, mem, got, was)
				}
			}
		}
	}
}

func TestP20MemWithOfAnEntry(t *testing.T) {
	entries := append(okEntries(), impl.Entry{Has: true, Page: impl.PageMax}, impl.Entry{Has: true, Page: impl.PageMax, Write: true}, impl.Entry{Has: true, Page: 31})
	for _, mem := range guestMems() {
		for page, at := range tabPlaces() {
			for _, e := range entries {
				want := impl.Entry{}
				if e.Page >= impl.TabLow && e.Page < impl.PageMax {
					want = e
				}
				got := impl.MemTab(withWord(t, mem, at, impl.EntryNum(e)))
				if impl.TabAt(got, page) != want || impl.EntryOf(impl.EntryNum(e)) != want {
					t.Fatalf("%v made at %v of %v: MemTab is %v, and has to have %v", e, at, mem, got, want)
				}
			}
		}
	}
}
