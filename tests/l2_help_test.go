package tests

import (
	"math"
	"slices"
	"testing"

	"loop.example/casket/impl"
)

// place is where a word stands.
type place struct{ page, off int }

// tabPlaces are where a guest's memory tells the entry of each of its pages.
func tabPlaces() []place {
	return []place{{0, 0}, {0, 1}, {0, 2}, {0, 3}, {1, 0}, {1, 1}}
}

// places are all places of memory of so many pages.
func places(pages int) []place {
	var all []place
	for page := range pages {
		for off := range impl.OffMax {
			all = append(all, place{page, off})
		}
	}
	return all
}

// noPlaces are places that memory of so many pages does not have; the ones far out are one that it has, if bits are lost.
func noPlaces(pages int) []place {
	far := []int{-2, -4, 256, 1 << 16, 1 << 32, 1<<32 + 1, -1 << 32, math.MaxInt32, math.MinInt32, math.MaxInt, math.MaxInt - 1, math.MinInt, math.MinInt + 1}
	var none []place
	for _, page := range append(far, -1, pages, pages+1) {
		for _, off := range []int{0, 1, impl.OffMax - 1} {
			none = append(none, place{page, off})
		}
	}
	for _, off := range append(far, -1, impl.OffMax, impl.OffMax+1) {
		for _, page := range []int{0, 1, pages - 1} {
			none = append(none, place{page, off})
		}
	}
	// The place behind the end of a page is not the first one of the next, and the one ahead not the last one of the page ahead.
	return append(none, place{0, impl.OffMax}, place{1, -1}, place{-1, -1}, place{pages, impl.OffMax})
}

// someWords are words that may stand anywhere.
func someWords() []int {
	return []int{0, 1, 5, 12, 13, 31, 32, impl.WordMax - 1, impl.WordMax}
}

// noWords are numbers that may stand nowhere.
func noWords() []int {
	return []int{
		-1, -2, -impl.WordMax, impl.WordMax + 1, impl.WordMax + 2, 127, 128, 255, 256, 256 + 5, 1<<16 + 5, 1 << 32, 1<<32 + 5, -1 << 32,
		math.MaxInt32, math.MinInt32, math.MaxInt, math.MinInt,
	}
}

// evenMem is memory with one word everywhere.
func evenMem(pages int, word int) [][]int {
	mem := [][]int{}
	for range pages {
		mem = append(mem, slices.Repeat([]int{word}, impl.OffMax))
	}
	return mem
}

// mixedMem is memory in which each word of up to 16 pages is another one, so that a word from a wrong place shows.
func mixedMem(pages int, seed int) [][]int {
	mem := evenMem(pages, 0)
	for i, p := range places(pages) {
		mem[p.page][p.off] = (i*29 + seed*7) % (impl.WordMax + 1)
	}
	return mem
}

// someMems are ok memories of many numbers of pages, a guest's among them.
func someMems() [][][]int {
	mems := [][][]int{nil, {}}
	for _, pages := range []int{0, 1, 2, 3, impl.PageMax - 1, impl.PageMax, impl.PageMax + 1, 2 * impl.PageMax, 16} {
		mems = append(mems, evenMem(pages, 0), evenMem(pages, 1), evenMem(pages, impl.WordMax))
		for seed := range 4 {
			mems = append(mems, mixedMem(pages, seed))
		}
	}
	return mems
}

// guestMems are guests' memories that tell tables of all kinds.
func guestMems() [][][]int {
	var mems [][][]int
	for word := range impl.WordMax + 1 {
		mems = append(mems, evenMem(impl.PageMax, word), mixedMem(impl.PageMax, word))
	}
	for _, tab := range someTabs(100) {
		mem := mixedMem(impl.PageMax, len(mems))
		for page, at := range tabPlaces() {
			mem[at.page][at.off] = impl.EntryNum(tab[page])
		}
		mems = append(mems, mem)
	}
	return mems
}

// wrongPages are pages that are not ok: empty, with a word too few or too many, or with one that is none at any place.
func wrongPages() [][]int {
	pages := [][]int{nil, {}}
	for _, word := range []int{0, 7, impl.WordMax, -1} {
		for _, count := range []int{1, impl.OffMax - 1, impl.OffMax + 1, 2 * impl.OffMax, 1000} {
			pages = append(pages, slices.Repeat([]int{word}, count))
		}
	}
	for _, word := range noWords() {
		for off := range impl.OffMax {
			page := []int{3, 0, impl.WordMax, 8}
			page[off] = word
			pages = append(pages, page)
		}
		pages = append(pages, slices.Repeat([]int{word}, impl.OffMax))
	}
	return pages
}

// wrongMems are memories with a wrong page at any place.
func wrongMems() [][][]int {
	var mems [][][]int
	for _, wrong := range wrongPages() {
		for _, pages := range []int{1, 2, impl.PageMax, impl.PageMax + 1} {
			for page := range pages {
				mem := mixedMem(pages, page)
				mem[page] = slices.Clone(wrong)
				mems = append(mems, mem)
			}
		}
		mems = append(mems, slices.Repeat([][]int{wrong}, impl.PageMax))
	}
	// As many words as a guest has, but cut otherwise.
	return append(mems, [][]int{make([]int, impl.PageMax*impl.OffMax)}, [][]int{{0, 0, 0}, {0, 0, 0, 0, 0}, {0, 0, 0, 0}, {0, 0, 0, 0}, {0, 0, 0, 0}, {0, 0, 0, 0}})
}

// sameMem holds memories against each other as the document does: the empty one and nil are one.
func sameMem(a, b [][]int) bool {
	return slices.EqualFunc(a, b, slices.Equal[[]int])
}

func copyMem(mem [][]int) [][]int {
	var made [][]int
	for _, words := range mem {
		made = append(made, slices.Clone(words))
	}
	return made
}

// changedMem is what MemWith has to answer.
func changedMem(mem [][]int, at place, word int) [][]int {
	changed := copyMem(mem)
	changed[at.page][at.off] = word
	return changed
}

// withWord is MemWith of ok arguments.
func withWord(t *testing.T, mem [][]int, at place, word int) [][]int {
	t.Helper()
	got, ok := impl.MemWith(mem, at.page, at.off, word)
	if !ok {
		t.Fatalf("MemWith(%v, %d, %d, %d) is false", mem, at.page, at.off, word)
	}
	return got
}

// wantNoMem fails if an answer that has to be nothing and false is something, or true.
func wantNoMem(t *testing.T, what string, got [][]int, ok bool) {
	t.Helper()
	if len(got) != 0 || ok {
		t.Errorf("%s is %v, %v, and has to be nothing and false", what, got, ok)
	}
}
