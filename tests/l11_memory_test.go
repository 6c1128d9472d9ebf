package tests

import (
	"slices"
	"testing"

	"loop.example/casket/impl"
)

// aloneWrites are the two that answer memory.
func aloneWrites() []func([][]int, place, int) written {
	return []func([][]int, place, int) written{writeTo, writeIn}
}

// aloneMems are memories of guests that may write, may not, and have nothing to write, and of no guests.
func aloneMems() [][][]int {
	mems := append(fewMems(), evenMem(impl.PageMax, 5))
	return append(mems, noGuests()...)
}

func TestAloneCallsChangeNoArgument(t *testing.T) {
	for _, given := range aloneMems() {
		mem := roomyMem(given)
		was := wholeMem(mem)
		for _, page := range edgePages() {
			for _, off := range edgeOffs() {
				impl.FlatRead(mem, page, off)
				impl.FlatReadIn(mem, page, off)
				for _, word := range edgeWords() {
					for _, write := range aloneWrites() {
						scribbleMem(write(mem, place{page, off}, word).mem)
					}
				}
			}
		}
		if !sameMem(wholeMem(mem), was) {
			t.Fatalf("a call, or a write into its answer, changed %v", given)
		}
	}
}

func TestAloneAnswersAreNewMemory(t *testing.T) {
	for _, given := range aloneMems() {
		for _, at := range []place{{0, 0}, {1, 1}, {4, 3}, {impl.PageMax - 1, 0}, {impl.PageMax, 0}, {0, -1}} {
			// The word that is there already, and memory that stays, are no reason to hand out what was handed in.
			for _, word := range []int{5, 37, -1} {
				for _, write := range aloneWrites() {
					checkNewMemory(t, given, at, word, write)
				}
			}
		}
	}
}

func checkNewMemory(t *testing.T, given [][]int, at place, word int, write func([][]int, place, int) written) {
	t.Helper()
	mem, want := roomyMem(given), copyMem(write(given, at, word).mem)
	checkApart(t, write(mem, at, word).mem)
	first, second := write(mem, at, word), write(mem, at, word)
	scribbleMem(first.mem)
	scribbleMem(mem)
	if !sameMem(second.mem, want) {
		t.Fatalf("writing %d at %v of %v: the answer shares memory with its argument, or with another one", word, at, given)
	}
}

func TestRoomBehindMemoryDoesNotCountAlone(t *testing.T) {
	for _, given := range aloneMems() {
		mem := roomyMem(given)
		for _, page := range edgePages() {
			for _, off := range edgeOffs() {
				if impl.FlatRead(mem, page, off) != impl.FlatRead(given, page, off) || impl.FlatReadIn(mem, page, off) != impl.FlatReadIn(given, page, off) {
					t.Fatalf("what is behind the ends of %v counts at %d, %d", given, page, off)
				}
				for _, write := range aloneWrites() {
					at := place{page, off}
					wantWritten(t, write(mem, at, 3), write(given, at, 3), given, at, 3)
				}
			}
		}
	}
	// A guest that lacks a page lacks it, though one lies behind its end.
	short := evenMem(impl.PageMax, 6)[:impl.PageMax-1]
	wantAllBad(t, short, place{0, 0}, 1)
}

func TestPagesThatShareMemoryAreWrittenAlone(t *testing.T) {
	words := []int{6, 10, 7, 12}
	shared := slices.Repeat([][]int{words}, impl.PageMax)
	for _, at := range places(impl.PageMax) {
		got := writeTo(shared, at, 60)
		wantWritten(t, got, written{changedMem(shared, at, 60), words[at.off]}, shared, at, 60)
		checkApart(t, got.mem)
		got = writeIn(shared, at, 60)
		want := written{shared, impl.GotDenied}
		if e := toldTab(shared)[at.page]; e.Write {
			want = written{changedMem(shared, place{e.Page, at.off}, 60), words[at.off]}
		}
		wantWritten(t, got, want, shared, at, 60)
		checkApart(t, got.mem)
		if !slices.Equal(words, []int{6, 10, 7, 12}) {
			t.Fatalf("the page handed in six times is %v", words)
		}
	}
}

func TestPagesCutFromOneListAreWrittenAlone(t *testing.T) {
	row := slices.Repeat([]int{6}, impl.PageMax*impl.OffMax)
	var mem [][]int
	for page := range impl.PageMax {
		mem = append(mem, row[page*impl.OffMax:(page+1)*impl.OffMax])
	}
	for _, at := range places(impl.PageMax) {
		for _, word := range []int{1, -1} {
			for _, write := range aloneWrites() {
				checkApart(t, write(mem, at, word).mem)
			}
		}
	}
	if slices.Max(row) != 6 || slices.Min(row) != 6 {
		t.Errorf("the list of all pages is %v", row)
	}
}

func TestAnswersOfAloneCallsCanBeHandedInAgain(t *testing.T) {
	// A table is made word by word, then its own guest writes by it.
	mem := impl.MemNew(impl.PageMax)
	for page, at := range tabPlaces() {
		mem = writeTo(mem, at, []int{6, 8, 10, 12, 5, 0}[page]).mem
	}
	var told []int
	for page := range impl.PageMax {
		got := writeIn(mem, place{page, page % impl.OffMax}, 20+page)
		mem, told = got.mem, append(told, got.told)
	}
	want := [][]int{{6, 8, 10, 12}, {5, 0, 0, 0}, {20, 0, 0, 0}, {0, 21, 0, 0}, {0, 0, 22, 0}, {0, 0, 0, 23}}
	if !sameMem(mem, want) || !slices.Equal(told, []int{0, 0, 0, 0, impl.GotDenied, impl.GotFault}) {
		t.Errorf("%v, %v, and has to be %v", mem, told, want)
	}
}
