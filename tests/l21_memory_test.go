package tests

import (
	"fmt"
	"slices"
	"sync"
	"testing"

	"loop.example/casket/impl"
)

func junkAct() impl.Act {
	return impl.Act{Kind: impl.ActWrite, Page: 3, Off: 2, Word: 55}
}

// roomyActs are the same acts with room behind their end, filled with more of them, so that one that is done, or changed, shows.
func roomyActs(acts []impl.Act) []impl.Act {
	room := append(slices.Clone(acts), slices.Repeat([]impl.Act{junkAct()}, impl.PlayMax+3)...)
	return room[:len(acts)]
}

func wholeActs(acts []impl.Act) []impl.Act {
	return slices.Clone(acts[:cap(acts)])
}

// scribbleList writes over numbers and the room behind their end.
func scribbleList(list []int) {
	list = list[:cap(list)]
	for i := range list {
		list[i] = junkWord
	}
}

// actRows are plays of all kinds, some of them of too many acts.
func actRows() [][]impl.Act {
	rows := [][]impl.Act{nil, {}, {tableWrite(0), anyRead(0)}, slices.Repeat([]impl.Act{actJoin()}, impl.PlayMax+1), slices.Repeat([]impl.Act{tableWrite(1)}, impl.PlayMax)}
	for seed := range 30 {
		rows = append(rows, anyActs(seed), tidyActs(seed), thrownActs(seed, 2, seed))
	}
	return rows
}

// someActs are acts of each kind, and of none, at the edges, and where there is nothing.
func someActs() []impl.Act {
	var acts []impl.Act
	for kind := 0; kind <= impl.ActCarry+1; kind++ {
		for _, p := range []page{{0, 0}, {1, 2}, {0, impl.PageMax - 1}, {-1, 0}, {0, -1}, {0, impl.FrameMax}, {impl.GuestMax, 3}} {
			acts = append(acts, impl.Act{Kind: kind, Guest: p.guest, Page: p.page, Off: 1, Word: 7})
		}
	}
	return append(acts, actRead(page{0, 0}, impl.OffMax), actWriteIn(page{0, 0}, 1, impl.WordMax+1))
}

// doMems are memories of all kinds, ok or not, few enough to try all acts with each.
func doMems() [][][]int {
	mems := append(fewMems()[:12], noGuests()[:8]...)
	return append(mems, nil, entryMem(0, impl.Entry{Has: true, Page: 3, Write: true}), evenMem(impl.PageMax+1, 6), evenMem(impl.PageMax-1, 6))
}

func TestActsOfPlaysAreNotChanged(t *testing.T) {
	for _, given := range actRows() {
		acts := roomyActs(given)
		was := wholeActs(acts)
		impl.ActsTidy(acts)
		for guest := -1; guest <= impl.GuestMax+1; guest++ {
			told, mem := impl.FlatPlay(acts, guest)
			scribbleList(told)
			scribbleMem(mem)
			got := hostPlay(guest, acts)
			scribbleList(got.told)
			scribbleHost(got.h)
		}
		if !slices.Equal(wholeActs(acts), was) {
			t.Fatalf("a call changed %v", given)
		}
	}
}

func TestActsBehindTheEndDoNotCount(t *testing.T) {
	for _, given := range actRows() {
		acts := roomyActs(given)
		if impl.ActsTidy(acts) != impl.ActsTidy(given) {
			t.Fatalf("what is behind the end of %v counts", given)
		}
		for guest := -1; guest <= impl.GuestMax+1; guest++ {
			told, mem := impl.FlatPlay(given, guest)
			wantFlatPlay(t, "room behind the end", acts, guest, told, mem)
			wantPlayed(t, "room behind the end", acts, hostPlay(guest, acts), hostPlay(guest, given))
		}
	}
	// What is cut off is lacking, though it lies behind the end.
	whole := []impl.Act{tableWrite(0), anyRead(0)}
	wantTidy(t, "cut ahead of what is not tidy", true, whole[:1]...)
	wantTold(t, "cut", whole[:1], hostPlay(1, whole[:1]).told, []int{0})
}

func TestAnswersOfPlaysAreNewMemory(t *testing.T) {
	for _, given := range actRows() {
		acts := roomyActs(given)
		for guest := -1; guest <= impl.GuestMax+1; guest++ {
			told, mem := impl.FlatPlay(acts, guest)
			again, memAgain := impl.FlatPlay(acts, guest)
			known := append(cells(told), memCells(mem)...)
			wantApart(t, "FlatPlay", known, nil)
			wantApart(t, "FlatPlay once more", append(cells(again), memCells(memAgain)...), known)
			first, second := hostPlay(guest, acts), hostPlay(guest, acts)
			known = append(cells(first.told), hostCells(first.h)...)
			wantApart(t, "HostPlay", known, nil)
			wantApart(t, "HostPlay once more", append(cells(second.told), hostCells(second.h)...), known)
		}
	}
}

func TestAnswersOfPlaysStay(t *testing.T) {
	for _, given := range actRows() {
		for guest := 0; guest <= impl.GuestMax; guest++ {
			acts := slices.Clone(given)
			told, mem := impl.FlatPlay(acts, guest)
			wantToldThen, wantMemThen := slices.Clone(told), copyMem(mem)
			got := hostPlay(guest, acts)
			want := played{copyHost(got.h), slices.Clone(got.told)}
			for i := range acts {
				acts[i] = junkAct()
			}
			other, otherMem := impl.FlatPlay(given, guest)
			scribbleList(other)
			scribbleMem(otherMem)
			scribbleHost(hostPlay(guest, given).h)
			wantTold(t, "FlatPlay, with its argument written over,", given, told, wantToldThen)
			if !sameMem(mem, wantMemThen) {
				t.Fatalf("FlatPlay, with its argument written over, is %v", mem)
			}
			wantPlayed(t, "HostPlay, with its argument written over,", given, got, want)
			wantPlayed(t, "HostPlay once more", given, hostPlay(guest, given), want)
		}
	}
}

func TestHostDoChangesNoArgument(t *testing.T) {
	for _, given := range memoryHosts() {
		h := roomyHost(given)
		was := wholeHost(h)
		scribbleHost(impl.HostCarry(h))
		for _, a := range someActs() {
			scribbleHost(hostDo(h, a).h)
			if !sameHost(wholeHost(h), was) {
				t.Fatalf("HostDo of %v, or HostCarry, or a write into its answer, changed %v", a, given)
			}
		}
	}
}

func TestAnswersOfHostDoAreNewMemory(t *testing.T) {
	for i, given := range memoryHosts() {
		h := roomyHost(given)
		known := hostCells(h)
		carried := impl.HostCarry(h)
		wantApart(t, "HostCarry", hostCells(carried), known)
		wantApart(t, "HostCarry once more", hostCells(impl.HostCarry(h)), hostCells(carried))
		if i%2 == 1 {
			continue
		}
		for _, a := range someActs() {
			first, second := hostDo(h, a), hostDo(h, a)
			wantApart(t, fmt.Sprint("HostDo of ", a), hostCells(first.h), known)
			wantApart(t, fmt.Sprint("HostDo of ", a, " once more"), hostCells(second.h), hostCells(first.h))
		}
	}
}

func TestAnswersOfHostDoStay(t *testing.T) {
	for _, given := range memoryHosts() {
		for _, a := range someActs() {
			h := roomyHost(given)
			want := hostDo(given, a)
			first, second := hostDo(h, a), hostDo(h, a)
			carried := impl.HostCarry(h)
			wantCame(t, "room behind the ends", first, want)
			scribbleHost(first.h)
			scribbleHost(h)
			wantCame(t, "HostDo, with its argument written over,", second, want)
			wantHost(t, "HostCarry, with its argument written over,", carried, impl.HostCarry(given))
		}
	}
}

func TestHostDoThatChangesNothingAnswersNewMemory(t *testing.T) {
	full := fullHost()
	for _, a := range []impl.Act{{}, {Kind: impl.ActCarry + 1}, actJoin(), actMove(0), actMove(-1), actForget(2), actOut(page{1, 1}), actOut(page{0, -1}), actRead(page{0, 0}, 0), actRead(page{0, 0}, -1), actReadIn(page{0, 0}, 1)} {
		given := roomyHost(full)
		got := hostDo(given, a)
		wantHost(t, fmt.Sprint("HostDo of ", a), got.h, full)
		wantApart(t, fmt.Sprint("HostDo of ", a), hostCells(got.h), hostCells(given))
	}
	out := newHost(2)
	wantHost(t, "HostCarry of a new host", impl.HostCarry(out), out)
	wantApart(t, "HostCarry of a new host", hostCells(impl.HostCarry(out)), hostCells(out))
}

func TestFlatDoChangesNoArgument(t *testing.T) {
	for _, given := range doMems() {
		mem := roomyMem(given)
		was := wholeMem(mem)
		for _, a := range someActs() {
			scribbleMem(flatDo(mem, a).mem)
			if !sameMem(wholeMem(mem), was) {
				t.Fatalf("FlatDo of %v, or a write into its answer, changed %v", a, given)
			}
		}
	}
}

func TestAnswersOfFlatDoAreNewMemory(t *testing.T) {
	for _, given := range doMems() {
		for _, a := range someActs() {
			mem := roomyMem(given)
			first, second := flatDo(mem, a), flatDo(mem, a)
			want := flatDo(given, a)
			wantApart(t, fmt.Sprint("FlatDo of ", a), memCells(first.mem), memCells(mem))
			wantApart(t, fmt.Sprint("FlatDo of ", a, " once more"), memCells(second.mem), memCells(first.mem))
			scribbleMem(first.mem)
			scribbleMem(mem)
			if second.told != want.told || !sameMem(second.mem, want.mem) {
				t.Fatalf("FlatDo of %v of %v, with its argument written over, is %v", a, given, second)
			}
		}
	}
}

func TestDoingWithListsThatShareMemory(t *testing.T) {
	// All frames, and all on disk, are one page, and both guests have the same lists; what is written into one of them would show in all others.
	words := []int{6, 8, 6, 8}
	g := impl.Guest{Maps: make([]impl.Map, impl.PageMax), Disk: slices.Repeat([][]int{words}, impl.PageMax), Shades: make([]impl.Shade, impl.PageMax)}
	alike := impl.Host{Frames: slices.Repeat([][]int{words}, impl.FrameMax), Guests: []impl.Guest{g, g}}
	for _, a := range someActs() {
		got := hostDo(alike, a)
		wantCame(t, "lists that share memory", got, hostDo(copyHost(alike), a))
		wantApart(t, "lists that share memory", hostCells(got.h), hostCells(alike))
		alone := flatDo(g.Disk, a)
		if want := flatDo(copyMem(g.Disk), a); alone.told != want.told || !sameMem(alone.mem, want.mem) {
			t.Fatalf("FlatDo of %v of pages that share memory is %v, and has to be %v", a, alone, want)
		}
		wantApart(t, "pages that share memory", memCells(alone.mem), cells(words))
		if !slices.Equal(words, []int{6, 8, 6, 8}) {
			t.Fatalf("%v wrote into its argument", a)
		}
	}
	wantApart(t, "HostCarry of lists that share memory", hostCells(impl.HostCarry(alike)), hostCells(alike))
	wantApart(t, "HostCarry of pages in one frame", hostCells(impl.HostCarry(oneFrame(2))), nil)
}

func TestManyPlaysAtOnce(t *testing.T) {
	// Nothing is kept between two calls, so it does not matter how many are under way.
	acts := tidyActs(1)
	want := hostPlay(2, acts)
	told, mem := impl.FlatPlay(acts, 1)
	var all sync.WaitGroup
	wrong := make(chan string, 64)
	for range 64 {
		all.Go(func() {
			for range 20 {
				gotTold, gotMem := impl.FlatPlay(acts, 1)
				if !slices.Equal(gotTold, told) || !sameMem(gotMem, mem) {
					wrong <- fmt.Sprint("FlatPlay is ", gotTold, gotMem)
					return
				}
			}
			if got := hostPlay(2, acts); !slices.Equal(got.told, want.told) || !sameHost(got.h, want.h) {
				wrong <- fmt.Sprint("HostPlay is ", got)
			}
		})
	}
	all.Wait()
	close(wrong)
	for what := range wrong {
		t.Error(what)
	}
}
