package tests

import (
	"math"
	"slices"
	"testing"

	"loop.example/casket/impl"
)

func TestMemoryLimits(t *testing.T) {
	if impl.OffMax != 4 || impl.WordMax != 63 {
		t.Errorf("OffMax %d, WordMax %d", impl.OffMax, impl.WordMax)
	}
}

func TestP14MemNew(t *testing.T) {
	for pages := 0; pages <= impl.PageMax; pages++ {
		got := impl.MemNew(pages)
		if !sameMem(got, evenMem(pages, 0)) || !impl.MemOk(got) {
			t.Errorf("MemNew(%d) is %v", pages, got)
		}
	}
}

func TestP14MemNewOfOtherNumbers(t *testing.T) {
	for _, pages := range []int{
		-1, -2, -impl.PageMax, impl.PageMax + 1, impl.PageMax + 2, 2 * impl.PageMax, 256, 256 + 3, 1<<16 + 3, 1 << 32, 1<<32 + 3,
		math.MaxInt32, math.MinInt32, math.MaxInt, math.MinInt, math.MinInt + 3,
	} {
		if got := impl.MemNew(pages); len(got) != 0 {
			t.Errorf("MemNew(%d) is of %d pages, and has to be nothing", pages, len(got))
		}
	}
}

func TestMemOk(t *testing.T) {
	for _, mem := range someMems() {
		if !impl.MemOk(mem) {
			t.Errorf("MemOk(%v) is false", mem)
		}
	}
	for _, mem := range wrongMems() {
		if impl.MemOk(mem) {
			t.Errorf("MemOk(%v) is true", mem)
		}
	}
	if !impl.MemOk(mixedMem(5000, 1)) {
		t.Error("MemOk of many pages is false")
	}
}

func TestMemOkOfEachWordAtEachPlace(t *testing.T) {
	for _, at := range places(impl.PageMax) {
		for word := -70; word <= 140; word++ {
			mem := changedMem(mixedMem(impl.PageMax, 3), at, word)
			if want := word >= 0 && word <= 63; impl.MemOk(mem) != want {
				t.Errorf("MemOk with %d at %v is %v", word, at, !want)
			}
		}
	}
}

func TestMemAt(t *testing.T) {
	for _, mem := range someMems() {
		for _, at := range places(len(mem)) {
			if got, ok := impl.MemAt(mem, at.page, at.off); !ok || got != mem[at.page][at.off] {
				t.Errorf("MemAt(%v, %d, %d) is %d, %v", mem, at.page, at.off, got, ok)
			}
		}
		for _, at := range noPlaces(len(mem)) {
			if got, ok := impl.MemAt(mem, at.page, at.off); ok || got != 0 {
				t.Errorf("MemAt(%v, %d, %d) is %d, %v, and has to be 0 and false", mem, at.page, at.off, got, ok)
			}
		}
	}
}

func TestMemAtOfWrongMemory(t *testing.T) {
	for _, mem := range wrongMems() {
		for page := -1; page <= len(mem); page++ {
			for off := -1; off <= impl.OffMax; off++ {
				if got, ok := impl.MemAt(mem, page, off); ok || got != 0 {
					t.Fatalf("MemAt(%v, %d, %d) is %d, %v, and has to be 0 and false", mem, page, off, got, ok)
				}
			}
		}
	}
}

func TestP15MemWith(t *testing.T) {
	for _, mem := range someMems() {
		for _, at := range places(len(mem)) {
			for _, word := range someWords() {
				got := withWord(t, mem, at, word)
				if !impl.MemOk(got) || len(got) != len(mem) {
					t.Fatalf("MemWith(%v, %v, %d) is %v", mem, at, word, got)
				}
				checkWord(t, mem, got, at, word)
			}
		}
	}
}

// checkWord fails if another word is read at that place, or anything but what was there at any other one.
func checkWord(t *testing.T, was, got [][]int, at place, word int) {
	t.Helper()
	for _, other := range places(len(was)) {
		want := was[other.page][other.off]
		if other == at {
			want = word
		}
		if read, ok := impl.MemAt(got, other.page, other.off); !ok || read != want {
			t.Fatalf("behind MemWith(%v, %v, %d) %d, %v is read at %v, and has to be %d", was, at, word, read, ok, other, want)
		}
	}
}

func TestP15MemWithOfWrongPlaces(t *testing.T) {
	for _, mem := range someMems() {
		for _, at := range noPlaces(len(mem)) {
			for _, word := range []int{0, impl.WordMax, -1} {
				got, ok := impl.MemWith(mem, at.page, at.off, word)
				wantNoMem(t, "MemWith at no place", got, ok)
			}
		}
	}
}

func TestP15MemWithOfWrongWords(t *testing.T) {
	for _, mem := range someMems() {
		for _, at := range places(len(mem)) {
			for _, word := range noWords() {
				got, ok := impl.MemWith(mem, at.page, at.off, word)
				wantNoMem(t, "MemWith of no word", got, ok)
			}
		}
	}
}

func TestP15MemWithOfWrongMemory(t *testing.T) {
	for _, mem := range wrongMems() {
		for page := -1; page <= len(mem); page++ {
			for off := -1; off <= impl.OffMax; off++ {
				got, ok := impl.MemWith(mem, page, off, 3)
				wantNoMem(t, "MemWith of wrong memory", got, ok)
			}
		}
	}
}

func TestP16TwoWordsAtOnePlace(t *testing.T) {
	for _, mem := range someMems() {
		for _, at := range places(len(mem)) {
			for _, first := range []int{0, 9, impl.WordMax} {
				for _, second := range someWords() {
					got := withWord(t, withWord(t, mem, at, first), at, second)
					if !sameMem(got, changedMem(mem, at, second)) {
						t.Fatalf("%d and %d at %v of %v: %v", first, second, at, mem, got)
					}
				}
			}
		}
	}
}

func TestP16TwoPlacesInAnyOrder(t *testing.T) {
	for _, mem := range [][][]int{mixedMem(1, 2), mixedMem(2, 5), mixedMem(impl.PageMax, 1), evenMem(impl.PageMax+1, impl.WordMax)} {
		for _, a := range places(len(mem)) {
			for _, b := range places(len(mem)) {
				if a == b {
					continue
				}
				left := withWord(t, withWord(t, mem, a, 11), b, 50)
				right := withWord(t, withWord(t, mem, b, 50), a, 11)
				if want := changedMem(changedMem(mem, a, 11), b, 50); !sameMem(left, want) || !sameMem(right, want) {
					t.Fatalf("11 at %v and 50 at %v of %v: %v, and %v", a, b, mem, left, right)
				}
			}
		}
	}
}

func TestP19MemWithOfTheWordThatIsThere(t *testing.T) {
	for _, mem := range someMems() {
		for _, at := range places(len(mem)) {
			if got := withWord(t, mem, at, mem[at.page][at.off]); !sameMem(got, mem) {
				t.Fatalf("%v with what is at %v is %v", mem, at, got)
			}
		}
	}
}

func TestP21MemoryWithoutAnyPage(t *testing.T) {
	for _, mem := range someMems() {
		for gone := range mem {
			less := slices.Delete(copyMem(mem), gone, gone+1)
			if !impl.MemOk(less) {
				t.Fatalf("%v without page %d is not ok", mem, gone)
			}
			for _, at := range places(len(less)) {
				from := at.page
				if from >= gone {
					from++
				}
				want, _ := impl.MemAt(mem, from, at.off)
				if got, ok := impl.MemAt(less, at.page, at.off); !ok || got != want {
					t.Fatalf("%v without page %d has %d, %v at %v, and has to have %d", mem, gone, got, ok, at, want)
				}
			}
		}
	}
}

func TestP21WrongMemoryIsOkJustWithoutItsWrongPage(t *testing.T) {
	for _, wrong := range wrongPages() {
		for page := range impl.PageMax {
			mem := mixedMem(impl.PageMax, page)
			mem[page] = wrong
			for gone := range mem {
				less := slices.Delete(copyMem(mem), gone, gone+1)
				if impl.MemOk(less) != (gone == page) {
					t.Fatalf("MemOk of %v without page %d is %v", mem, gone, gone != page)
				}
			}
		}
	}
}
