package tests

import (
	"testing"

	"loop.example/casket/impl"
)

func TestWhatIsNoWord(t *testing.T) {
	if impl.GotFault != -1 || impl.GotDenied != -2 || impl.GotBad != -3 {
		t.Errorf("GotFault %d, GotDenied %d, GotBad %d", impl.GotFault, impl.GotDenied, impl.GotBad)
	}
}

func TestP22FlatWrite(t *testing.T) {
	for _, mem := range flatMems() {
		for _, at := range places(impl.PageMax) {
			for _, word := range someWords() {
				want := written{changedMem(mem, at, word), mem[at.page][at.off]}
				wantWritten(t, writeTo(mem, at, word), want, mem, at, word)
			}
		}
	}
}

func TestP22BehindFlatWriteTheWordIsRead(t *testing.T) {
	for _, mem := range fewMems() {
		for _, at := range places(impl.PageMax) {
			for _, word := range someWords() {
				got := writeTo(mem, at, word).mem
				for _, other := range places(impl.PageMax) {
					want := mem[other.page][other.off]
					if other == at {
						want = word
					}
					if read := impl.FlatRead(got, other.page, other.off); read != want {
						t.Fatalf("behind FlatWrite(%v, %v, %d) %d is read at %v, and has to be %d", mem, at, word, read, other, want)
					}
				}
			}
		}
	}
}

func TestP22FlatWriteBackIsTheMemory(t *testing.T) {
	for _, mem := range flatMems() {
		for _, at := range places(impl.PageMax) {
			once := writeTo(mem, at, 33)
			wantWritten(t, writeTo(once.mem, at, once.told), written{mem, 33}, once.mem, at, once.told)
		}
	}
}

func TestP31FlatRead(t *testing.T) {
	for _, mem := range flatMems() {
		for _, at := range places(impl.PageMax) {
			want, ok := impl.MemAt(mem, at.page, at.off)
			if got := impl.FlatRead(mem, at.page, at.off); !ok || got != want || got != mem[at.page][at.off] {
				t.Fatalf("FlatRead(%v, %d, %d) is %d, and has to be %d", mem, at.page, at.off, got, want)
			}
		}
	}
}

func TestP31FlatReadOfEachWordAtEachPlace(t *testing.T) {
	for _, at := range places(impl.PageMax) {
		for word := -70; word <= 140; word++ {
			want := impl.GotBad
			if word >= 0 && word <= 63 {
				want = word
			}
			if got := impl.FlatRead(changedMem(mixedMem(impl.PageMax, 1), at, word), at.page, at.off); got != want {
				t.Errorf("FlatRead of %d at %v is %d, and has to be %d", word, at, got, want)
			}
		}
	}
}

func TestP31MemoriesReadTheSameAreTheSame(t *testing.T) {
	mems := append(flatMems()[:60], flatMems()[125:185]...)
	for _, a := range mems {
		for _, b := range mems {
			alike := true
			for _, at := range places(impl.PageMax) {
				alike = alike && impl.FlatRead(a, at.page, at.off) == impl.FlatRead(b, at.page, at.off)
			}
			if alike != sameMem(a, b) {
				t.Fatalf("all of %v and %v is read the same: %v", a, b, alike)
			}
		}
	}
}

func TestP28EdgesOfPagesPlacesAndWords(t *testing.T) {
	for _, mem := range [][][]int{evenMem(impl.PageMax, 0), evenMem(impl.PageMax, 5), evenMem(impl.PageMax, 6), mixedMem(impl.PageMax, 4)} {
		for _, page := range edgePages() {
			for _, off := range edgeOffs() {
				at := place{page, off}
				if page < 0 || page >= impl.PageMax || off < 0 || off >= impl.OffMax {
					wantReadsBad(t, mem, at)
				} else if got := impl.FlatRead(mem, page, off); got != mem[page][off] {
					t.Fatalf("FlatRead(%v, %d, %d) is %d", mem, page, off, got)
				}
				for _, word := range edgeWords() {
					checkEdge(t, mem, at, word)
				}
			}
		}
	}
}

func checkEdge(t *testing.T, mem [][]int, at place, word int) {
	t.Helper()
	if at.page < 0 || at.page >= impl.PageMax || at.off < 0 || at.off >= impl.OffMax || word < 0 || word > impl.WordMax {
		wantWritesBad(t, mem, at, word)
		return
	}
	want := written{changedMem(mem, at, word), mem[at.page][at.off]}
	wantWritten(t, writeTo(mem, at, word), want, mem, at, word)
	if writeIn(mem, at, word).told == impl.GotBad {
		t.Fatalf("FlatWriteIn(%v, %v, %d) is bad", mem, at, word)
	}
}

func TestP28OfPlacesThatThereAreNone(t *testing.T) {
	for _, mem := range fewMems() {
		for _, at := range noPlaces(impl.PageMax) {
			for _, word := range []int{0, 9, impl.WordMax, -1, impl.WordMax + 1} {
				wantAllBad(t, mem, at, word)
			}
		}
	}
}

func TestP28OfWordsThatThereAreNone(t *testing.T) {
	for _, mem := range fewMems() {
		for _, at := range places(impl.PageMax) {
			for _, word := range noWords() {
				wantWritesBad(t, mem, at, word)
			}
		}
	}
}

func TestP28TwoWrongAtOnce(t *testing.T) {
	for page := range impl.PageMax {
		for _, e := range givenEntries() {
			mem := entryMem(page, e)
			// What is bad is told first, whether the entry is nothing, may not be written, or may.
			for _, off := range []int{-1, impl.OffMax} {
				wantAllBad(t, mem, place{page, off}, 5)
				wantAllBad(t, mem, place{page, off}, impl.WordMax+1)
			}
			for _, word := range noWords() {
				wantWritesBad(t, mem, place{page, 0}, word)
				wantWritesBad(t, mem, place{page, impl.OffMax - 1}, word)
			}
			// So is memory that is none, though its table would still be told.
			mem[impl.PageMax-1][2] = -1
			wantAllBad(t, mem, place{page, 0}, 5)
		}
	}
}

func TestP28MemoryOfNoGuest(t *testing.T) {
	for _, mem := range noGuests() {
		for _, page := range []int{-1, 0, 1, impl.TabLow, len(mem) - 1, len(mem)} {
			for _, off := range []int{-1, 0, impl.OffMax - 1, impl.OffMax} {
				wantAllBad(t, mem, place{page, off}, 7)
			}
		}
		wantAllBad(t, mem, place{0, 0}, -1)
	}
}
