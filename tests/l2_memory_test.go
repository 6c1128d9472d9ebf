package tests

import (
	"slices"
	"testing"

	"loop.example/casket/impl"
)

const junkWord = -77

// roomyMem is the same memory with room behind its end, and behind that of each page; it is filled so that a write there shows.
func roomyMem(mem [][]int) [][]int {
	var room [][]int
	for _, words := range mem {
		room = append(room, roomyPage(words))
	}
	for range impl.PageMax + 2 {
		room = append(room, roomyPage([]int{junkWord}))
	}
	return room[:len(mem)]
}

func roomyPage(words []int) []int {
	room := append(slices.Clone(words), slices.Repeat([]int{junkWord}, impl.OffMax+2)...)
	return room[:len(words)]
}

// wholeMem is a copy of memory and of all room behind its ends.
func wholeMem(mem [][]int) [][]int {
	var made [][]int
	for _, words := range mem[:cap(mem)] {
		made = append(made, slices.Clone(words[:cap(words)]))
	}
	return made
}

// scribbleMem writes over memory and all room behind its ends.
func scribbleMem(mem [][]int) {
	mem = mem[:cap(mem)]
	for page, words := range mem {
		words = words[:cap(words)]
		for off := range words {
			words[off] = junkWord
		}
		mem[page] = nil
	}
}

// checkApart fails if two pages of an answer share memory, room behind their ends included.
func checkApart(t *testing.T, mem [][]int) {
	t.Helper()
	mem = mem[:cap(mem)]
	mark := 0
	for _, words := range mem {
		words = words[:cap(words)]
		for off := range words {
			mark++
			words[off] = mark
		}
	}
	mark = 0
	for page, words := range mem {
		for off, word := range words[:cap(words)] {
			mark++
			if word != mark {
				t.Fatalf("page %d of %v shares its word %d with another page", page, mem, off)
			}
		}
	}
}

func TestMemoryCallsChangeNoArgument(t *testing.T) {
	for _, given := range append(append(someMems(), guestMems()[:20]...), wrongMems()...) {
		mem := roomyMem(given)
		was := wholeMem(mem)
		impl.MemOk(mem)
		scribble(impl.MemTab(mem))
		for page := -1; page <= len(mem); page++ {
			for off := -1; off <= impl.OffMax; off++ {
				impl.MemAt(mem, page, off)
				got, _ := impl.MemWith(mem, page, off, impl.WordMax-off)
				scribbleMem(got)
				got, _ = impl.MemWith(mem, page, off, -1)
				scribbleMem(got)
			}
		}
		if !sameMem(wholeMem(mem), was) {
			t.Fatalf("a call, or a write into its answer, changed %v", given)
		}
	}
}

func TestRoomBehindMemoryDoesNotCount(t *testing.T) {
	for _, given := range append(append(someMems(), guestMems()[:20]...), wrongMems()...) {
		mem := roomyMem(given)
		if impl.MemOk(mem) != impl.MemOk(given) || !same(impl.MemTab(mem), impl.MemTab(given)) {
			t.Fatalf("what is behind the ends of %v counts", given)
		}
		got, ok := impl.MemWith(mem, 0, 0, 4)
		want, wantOk := impl.MemWith(given, 0, 0, 4)
		if ok != wantOk || !sameMem(got, want) {
			t.Fatalf("what is behind the ends of %v counts", given)
		}
		for _, at := range []place{{len(mem), 0}, {0, impl.OffMax}, {len(mem) - 1, impl.OffMax}} {
			if _, ok := impl.MemAt(mem, at.page, at.off); ok {
				t.Fatalf("a word is behind the ends of %v, at %v", given, at)
			}
			if _, ok := impl.MemWith(mem, at.page, at.off, 1); ok {
				t.Fatalf("a word is written behind the ends of %v, at %v", given, at)
			}
		}
	}
	// A page that lacks a word lacks it, though a word of its own lies behind its end.
	short := evenMem(impl.PageMax, 5)
	short[2] = short[2][:impl.OffMax-1]
	if impl.MemOk(short) {
		t.Error("a word behind the end of a page counts")
	}
}

func TestMemNewAnswersAreNewMemory(t *testing.T) {
	for pages := range impl.PageMax + 1 {
		checkApart(t, impl.MemNew(pages))
		first, second := impl.MemNew(pages), impl.MemNew(pages)
		scribbleMem(first)
		if third := impl.MemNew(pages); !sameMem(second, evenMem(pages, 0)) || !sameMem(third, evenMem(pages, 0)) {
			t.Fatalf("answers of MemNew(%d) share memory", pages)
		}
	}
}

func TestMemWithAnswersAreNewMemory(t *testing.T) {
	for _, given := range someMems() {
		for _, at := range places(len(given)) {
			// The word that is there already is no reason to hand out what was handed in.
			for _, word := range []int{given[at.page][at.off], 37} {
				mem := roomyMem(given)
				checkApart(t, withWord(t, mem, at, word))
				first, second := withWord(t, mem, at, word), withWord(t, mem, at, word)
				scribbleMem(first)
				scribbleMem(mem)
				if !sameMem(second, changedMem(given, at, word)) {
					t.Fatalf("MemWith(%v, %v, %d) shares memory with its argument, or with another answer", given, at, word)
				}
			}
		}
	}
}

func TestMemTabAnswersAreNewMemory(t *testing.T) {
	for _, given := range guestMems() {
		mem := roomyMem(given)
		first, second := impl.MemTab(mem), impl.MemTab(mem)
		scribble(first)
		if third := impl.MemTab(mem); !same(second, toldTab(given)) || !same(third, second) {
			t.Fatalf("answers of MemTab(%v) share memory", given)
		}
	}
}

func TestPagesThatShareMemoryAreChangedAlone(t *testing.T) {
	words := []int{1, 2, 3, 4}
	shared := slices.Repeat([][]int{words}, impl.PageMax)
	for _, at := range places(impl.PageMax) {
		got := withWord(t, shared, at, 60)
		if !sameMem(got, changedMem(shared, at, 60)) || !slices.Equal(words, []int{1, 2, 3, 4}) {
			t.Fatalf("one page handed in six times, with 60 at %v, is %v", at, got)
		}
		checkApart(t, got)
	}
}

func TestPagesCutFromOneListAreChangedAlone(t *testing.T) {
	row := make([]int, impl.PageMax*impl.OffMax)
	var mem [][]int
	for page := range impl.PageMax {
		mem = append(mem, row[page*impl.OffMax:(page+1)*impl.OffMax])
	}
	for _, at := range places(impl.PageMax) {
		got := withWord(t, mem, at, 1)
		if !sameMem(got, changedMem(evenMem(impl.PageMax, 0), at, 1)) || slices.Max(row) != 0 {
			t.Fatalf("pages of one list, with 1 at %v, are %v", at, got)
		}
		checkApart(t, got)
	}
}

func TestAnswersOfMemoryCallsCanBeHandedInAgain(t *testing.T) {
	mem := impl.MemNew(impl.PageMax)
	want := evenMem(impl.PageMax, 0)
	for i, at := range places(impl.PageMax) {
		mem = withWord(t, mem, at, i+impl.TabLow)
		want = changedMem(want, at, i+impl.TabLow)
	}
	if !sameMem(mem, want) || !same(impl.MemTab(mem), toldTab(want)) {
		t.Errorf("word by word %v is written, and has to be %v", mem, want)
	}
}
