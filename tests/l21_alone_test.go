package tests

import (
	"fmt"
	"math"
	"slices"
	"testing"

	"loop.example/casket/impl"
)

// noKinds are kinds that there are none of; the ones far out are one that there is, if bits are lost.
func noKinds() []int {
	return []int{
		0, -1, -2, -impl.ActCarry, impl.ActCarry + 1, impl.ActCarry + 2, 16 + 1, 256 + impl.ActRead, 1<<16 + impl.ActWrite, 1<<32 + impl.ActRead, 1<<32 + impl.ActCarry,
		math.MaxInt, math.MinInt, math.MinInt + impl.ActRead,
	}
}

// edgeActs are acts of that kind, of guests, pages, places and words at the edges, and where there are none.
func edgeActs(kind, guests int) []impl.Act {
	var acts []impl.Act
	for guest := -1; guest <= guests; guest++ {
		for _, at := range append(edgePages(), impl.FrameMax-1, impl.FrameMax) {
			for _, off := range edgeOffs() {
				for _, word := range edgeWords() {
					acts = append(acts, impl.Act{Kind: kind, Guest: guest, Page: at, Off: off, Word: word})
				}
			}
		}
	}
	return acts
}

// wantAlone fails if FlatDo does not answer what it has to.
func wantAlone(t *testing.T, mem [][]int, a impl.Act) {
	t.Helper()
	got, want := flatDo(mem, a), aloneOf(mem, a)
	if got.told != want.told || !sameMem(got.mem, want.mem) {
		t.Fatalf("FlatDo of %v of %v is %v, and has to be %v", a, mem, got, want)
	}
}

func TestFlatDoAtTheEdges(t *testing.T) {
	mems := append(fewMems()[:8], entryMem(0, impl.Entry{Has: true, Page: 5, Write: true}), entryMem(0, impl.Entry{Has: true, Page: 2}))
	mems = append(mems, noGuests()[:3]...)
	for _, mem := range mems {
		for kind := 0; kind <= impl.ActCarry+1; kind++ {
			for _, a := range edgeActs(kind, 1) {
				wantAlone(t, mem, a)
			}
		}
	}
}

func TestP78FlatDo(t *testing.T) {
	tells := map[int]int{}
	for i, mem := range flatMems() {
		for j, at := range places(impl.PageMax) {
			word := (i + 5*j) % (impl.WordMax + 1)
			a := impl.Act{Guest: i%4 - 1, Page: at.page, Off: at.off, Word: word}
			asked := []written{
				{mem, impl.FlatRead(mem, at.page, at.off)}, writeTo(mem, at, word), {mem, impl.FlatReadIn(mem, at.page, at.off)}, writeIn(mem, at, word),
			}
			for k, want := range asked {
				a.Kind = impl.ActRead + k
				wantWritten(t, flatDo(mem, a), want, mem, at, word)
				wantAlone(t, mem, a)
				tells[min(want.told, 0)]++
			}
		}
	}
	if tells[0] < 1000 || tells[impl.GotFault] < 1000 || tells[impl.GotDenied] < 500 {
		t.Errorf("of what FlatDo told there are just %v", tells)
	}
}

func TestP78FlatDoOfAllElse(t *testing.T) {
	for _, mem := range append(fewMems(), noGuests()...) {
		for _, kind := range append(noKinds(), impl.ActForget, impl.ActOut, impl.ActJoin, impl.ActMove, impl.ActCarry) {
			for _, at := range []place{{0, 0}, {2, 1}, {-1, 0}, {impl.PageMax, impl.OffMax}} {
				a := impl.Act{Kind: kind, Page: at.page, Off: at.off, Word: 6}
				if got := flatDo(mem, a); got.told != 0 || !sameMem(got.mem, mem) {
					t.Fatalf("FlatDo of %v of %v is %v, and has to be 0, and change nothing", a, mem, got)
				}
			}
		}
	}
}

func TestP78FlatDoOfNoGuestsMemory(t *testing.T) {
	for _, mem := range noGuests() {
		for kind := impl.ActRead; kind <= impl.ActWriteIn; kind++ {
			a := impl.Act{Kind: kind, Page: 2, Word: 6}
			if got := flatDo(mem, a); got.told != impl.GotBad || !sameMem(got.mem, mem) {
				t.Fatalf("FlatDo of %v of %v is %v, and has to be bad, and change nothing", a, mem, got)
			}
		}
	}
}

// aloneAll is what FlatPlay has to answer, of at most PlayMax acts.
func aloneAll(acts []impl.Act, guest int) ([]int, [][]int) {
	var told []int
	mem := evenMem(impl.PageMax, 0)
	for _, a := range actsOf(acts, guest) {
		got := aloneOf(mem, a)
		mem, told = got.mem, append(told, got.told)
	}
	return told, mem
}

// wantFlatPlay fails if FlatPlay does not answer that.
func wantFlatPlay(t *testing.T, what string, acts []impl.Act, guest int, told []int, mem [][]int) {
	t.Helper()
	gotTold, gotMem := impl.FlatPlay(acts, guest)
	wantTold(t, fmt.Sprint(what, ": FlatPlay of guest ", guest), acts, gotTold, told)
	if !sameMem(gotMem, mem) {
		t.Fatalf("%s: behind FlatPlay of guest %d of\n%v is\n%v, and has to be\n%v", what, guest, acts, gotMem, mem)
	}
}

func TestFlatPlayAsTheDocumentSays(t *testing.T) {
	for _, thrown := range []func(int) []impl.Act{anyActs, tidyActs} {
		eachPlay(thrown, func(seed, _ int, acts []impl.Act) {
			for _, guest := range []int{-1, 0, 1, 2, 3, math.MinInt, 1 << 32} {
				told, mem := aloneAll(acts, guest)
				wantFlatPlay(t, "a thrown play", acts, guest, told, mem)
			}
		})
	}
}

func TestP79FlatPlay(t *testing.T) {
	eachPlay(anyActs, func(seed, guests int, acts []impl.Act) {
		for guest := -1; guest <= guests; guest++ {
			var told []int
			mem := impl.MemNew(impl.PageMax)
			for _, a := range acts {
				if ofGuest(a, guest) {
					got := flatDo(mem, a)
					mem, told = got.mem, append(told, got.told)
				}
			}
			wantFlatPlay(t, "a thrown play", acts, guest, told, mem)
			// Those of others, and of the host, change nothing.
			wantFlatPlay(t, "its acts alone", actsOf(acts, guest), guest, told, mem)
			wantFlatPlay(t, "without the host's", withoutHost(acts), guest, told, mem)
		}
	})
}

func TestP79OthersActsBetween(t *testing.T) {
	own := []impl.Act{actEntry(page{0, 4}, impl.Entry{Has: true, Page: 3, Write: true}), actForget(0), actWriteIn(page{0, 4}, 1, 9), actRead(page{0, 3}, 1), actReadIn(page{0, 5}, 0)}
	between := []impl.Act{
		actWrite(page{1, 3}, 1, 5), actEntry(page{1, 4}, impl.Entry{Has: true, Page: 2}), actForget(1), actOut(page{0, 3}), actJoin(), actMove(0), actCarry(), {},
		{Kind: impl.ActCarry + 1}, actWrite(page{-1, 3}, 1, 5), actWrite(page{2, 3}, 1, 5),
	}
	var acts []impl.Act
	for _, a := range own {
		acts = append(append(acts, a), between...)
	}
	acts = acts[:len(own)*len(between)]
	want := changedMem(changedMem(evenMem(impl.PageMax, 0), tabPlaces()[4], 8), place{3, 1}, 9)
	wantFlatPlay(t, "others' acts between", acts, 0, []int{0, 0, 0, 9, impl.GotFault}, want)
	wantFlatPlay(t, "its acts alone", own, 0, []int{0, 0, 0, 9, impl.GotFault}, want)
	wantFlatPlay(t, "nobody's acts", acts, 3, nil, evenMem(impl.PageMax, 0))
}

func TestFlatPlayOfGuestsThatNoHostHas(t *testing.T) {
	// FlatPlay asks whose act it is, not whether there is such a guest.
	for _, guest := range append(noGuestNumbers(impl.GuestMax), 0, 1) {
		acts := []impl.Act{actWrite(page{guest, 2}, 0, 4), actRead(page{guest, 2}, 0), actRead(page{guest ^ 1, 2}, 0), actForget(guest), actRead(page{guest, 2}, impl.OffMax)}
		wantFlatPlay(t, "acts of its own", acts, guest, []int{0, 4, 0, impl.GotBad}, changedMem(evenMem(impl.PageMax, 0), place{2, 0}, 4))
		wantFlatPlay(t, "acts of the other", acts, guest^1, []int{0}, evenMem(impl.PageMax, 0))
	}
}

func TestFlatPlayOfAsManyAsThereMayBe(t *testing.T) {
	noughts := evenMem(impl.PageMax, 0)
	for guest := -1; guest <= 2; guest++ {
		wantFlatPlay(t, "no acts", nil, guest, nil, noughts)
		wantFlatPlay(t, "no acts", []impl.Act{}, guest, nil, noughts)
	}
	for _, guest := range []int{0, 1} {
		write := actWrite(page{guest, 5}, 3, 1)
		for _, count := range []int{1, impl.PlayMax - 1, impl.PlayMax} {
			told := slices.Repeat([]int{1}, count)
			told[0] = 0
			wantFlatPlay(t, "so many acts", slices.Repeat([]impl.Act{write}, count), guest, told, changedMem(noughts, place{5, 3}, 1))
			wantFlatPlay(t, "so many acts of another", slices.Repeat([]impl.Act{write}, count), 1-guest, nil, noughts)
		}
		for _, count := range []int{impl.PlayMax + 1, impl.PlayMax + 2, 1000} {
			wantFlatPlay(t, "too many acts", slices.Repeat([]impl.Act{write}, count), guest, nil, noughts)
			wantFlatPlay(t, "too many acts of another", slices.Repeat([]impl.Act{write}, count), 1-guest, nil, noughts)
		}
		// All acts count, not just those of the guest.
		many := append(slices.Repeat([]impl.Act{actJoin()}, impl.PlayMax), write)
		wantFlatPlay(t, "too many with the host's", many, guest, nil, noughts)
		wantFlatPlay(t, "just as many with the host's", many[1:], guest, []int{0}, changedMem(noughts, place{5, 3}, 1))
	}
}
