package tests

import (
	"slices"
	"testing"

	"loop.example/casket/impl"
)

// roomyHost is the same host with room behind the end of each list; it is filled so that a write there shows.
func roomyHost(h impl.Host) impl.Host {
	made := impl.Host{Frames: roomyMem(h.Frames), Hand: h.Hand}
	for _, g := range h.Guests {
		made.Guests = append(made.Guests, roomyGuest(g))
	}
	for range impl.GuestMax + 2 {
		made.Guests = append(made.Guests, roomyGuest(oneOut().Guests[0]))
	}
	made.Guests = made.Guests[:len(h.Guests)]
	return made
}

func roomyGuest(g impl.Guest) impl.Guest {
	maps := append(slices.Clone(g.Maps), slices.Repeat([]impl.Map{{Frame: junkWord, Write: true}}, impl.PageMax+2)...)
	shades := append(slices.Clone(g.Shades), slices.Repeat([]impl.Shade{{Page: junkWord, Write: true}}, impl.PageMax+2)...)
	return impl.Guest{Maps: maps[:len(g.Maps)], Disk: roomyMem(g.Disk), Shades: shades[:len(g.Shades)]}
}

// wholeHost is a copy of a host and of all room behind its ends.
func wholeHost(h impl.Host) impl.Host {
	made := impl.Host{Frames: wholeMem(h.Frames), Hand: h.Hand}
	for _, g := range h.Guests[:cap(h.Guests)] {
		made.Guests = append(made.Guests, impl.Guest{
			Maps:   slices.Clone(g.Maps[:cap(g.Maps)]),
			Disk:   wholeMem(g.Disk),
			Shades: slices.Clone(g.Shades[:cap(g.Shades)]),
		})
	}
	return made
}

// scribbleHost writes over a host and all room behind its ends.
func scribbleHost(h impl.Host) {
	scribbleMem(h.Frames)
	guests := h.Guests[:cap(h.Guests)]
	for guest, g := range guests {
		scribbleMem(g.Disk)
		for i := range g.Maps[:cap(g.Maps)] {
			g.Maps[:cap(g.Maps)][i] = impl.Map{Frame: junkWord}
		}
		for i := range g.Shades[:cap(g.Shades)] {
			g.Shades[:cap(g.Shades)][i] = impl.Shade{Page: junkWord}
		}
		guests[guest] = impl.Guest{}
	}
}

// cells are where the parts of a list lie, the room behind its end included.
func cells[T any](list []T) []any {
	var all []any
	list = list[:cap(list)]
	for i := range list {
		all = append(all, &list[i])
	}
	return all
}

func memCells(mem [][]int) []any {
	all := cells(mem)
	for _, words := range mem[:cap(mem)] {
		all = append(all, cells(words)...)
	}
	return all
}

func hostCells(h impl.Host) []any {
	all := append(memCells(h.Frames), cells(h.Guests)...)
	for _, g := range h.Guests[:cap(h.Guests)] {
		all = append(all, cells(g.Maps)...)
		all = append(all, memCells(g.Disk)...)
		all = append(all, cells(g.Shades)...)
	}
	return all
}

// wantApart fails if any two lists of an answer share memory, or one shares any with what was handed in.
func wantApart(t *testing.T, what string, answer []any, given []any) {
	t.Helper()
	seen := map[any]bool{}
	for _, cell := range given {
		seen[cell] = true
	}
	for _, cell := range answer {
		if seen[cell] {
			t.Fatalf("%s: an answer shares memory", what)
		}
		seen[cell] = true
	}
}

// someHosts are hosts of all kinds, ok or not.
func someHosts() []impl.Host {
	hosts := append(okHosts()[:80], impl.Host{})
	for i, w := range wrongHosts() {
		if i%7 == 0 {
			hosts = append(hosts, w.h)
		}
	}
	return hosts
}

// loadMems are memories that may be loaded, and that may not.
func loadMems() [][][]int {
	mems := [][][]int{nil, {}}
	for _, pages := range []int{1, impl.PageMax - 1, impl.PageMax, impl.PageMax + 1, 2*impl.PageMax - 1, 2 * impl.PageMax, 2*impl.PageMax + 1, 3 * impl.PageMax} {
		mems = append(mems, evenMem(pages, 0), mixedMem(pages, 5))
	}
	return append(mems, wrongMems()...)
}

func TestHostCallsChangeNoArgument(t *testing.T) {
	for _, given := range someHosts() {
		h := roomyHost(given)
		was := wholeHost(h)
		impl.HostOk(h)
		for guest := -1; guest <= impl.GuestMax; guest++ {
			scribbleMem(impl.HostSee(h, guest))
		}
		free := impl.HostFree(h)
		free = free[:cap(free)]
		for i := range free {
			free[i] = junkWord
		}
		if !sameHost(wholeHost(h), was) {
			t.Fatalf("a call, or a write into its answer, changed %v", given)
		}
	}
}

func TestHostLoadChangesNoArgument(t *testing.T) {
	for _, given := range loadMems() {
		mem := roomyMem(given)
		was := wholeMem(mem)
		h, _ := impl.HostLoad(mem)
		scribbleHost(h)
		if !sameMem(wholeMem(mem), was) {
			t.Fatalf("HostLoad, or a write into its answer, changed %v", given)
		}
	}
}

func TestHostAnswersAreNewMemory(t *testing.T) {
	for _, given := range someHosts() {
		h := roomyHost(given)
		known := hostCells(h)
		for guest := -1; guest <= impl.GuestMax; guest++ {
			first, second := impl.HostSee(h, guest), impl.HostSee(h, guest)
			wantApart(t, "HostSee", memCells(first), known)
			wantApart(t, "HostSee once more", memCells(second), append(memCells(first), known...))
		}
		first, second := impl.HostFree(h), impl.HostFree(h)
		wantApart(t, "HostFree", cells(first), known)
		wantApart(t, "HostFree once more", cells(second), append(cells(first), known...))
	}
}

func TestHostsThatAreMadeAreNewMemory(t *testing.T) {
	for guests := range impl.GuestMax + 2 {
		first, _ := impl.HostNew(guests)
		second, _ := impl.HostNew(guests)
		wantApart(t, "HostNew", hostCells(first), hostCells(second))
	}
	for _, given := range loadMems() {
		mem := roomyMem(given)
		first, _ := impl.HostLoad(mem)
		second, _ := impl.HostLoad(mem)
		wantApart(t, "HostLoad", hostCells(first), append(hostCells(second), memCells(mem)...))
	}
}

func TestHostsThatAreMadeStay(t *testing.T) {
	mem := roomyMem(mixedMem(2*impl.PageMax, 8))
	first, _ := impl.HostLoad(mem)
	second, _ := impl.HostLoad(mem)
	scribbleHost(first)
	scribbleMem(mem)
	wantLoaded(t, "HostLoad, with its argument written over", second, true, mixedMem(2*impl.PageMax, 8)[:impl.PageMax], mixedMem(2*impl.PageMax, 8)[impl.PageMax:])
	made, _ := impl.HostNew(impl.GuestMax)
	scribbleHost(made)
	again, ok := impl.HostNew(impl.GuestMax)
	wantLoaded(t, "HostNew once more", again, ok, evenMem(impl.PageMax, 0), evenMem(impl.PageMax, 0))
}

func TestRoomBehindHostsDoesNotCount(t *testing.T) {
	for _, given := range someHosts() {
		h := roomyHost(given)
		if impl.HostOk(h) != impl.HostOk(given) || !slices.Equal(impl.HostFree(h), impl.HostFree(given)) {
			t.Fatalf("what is behind the ends of %v counts", given)
		}
		for guest := -1; guest <= impl.GuestMax; guest++ {
			if !sameMem(impl.HostSee(h, guest), impl.HostSee(given, guest)) {
				t.Fatalf("what is behind the ends of %v counts for guest %d", given, guest)
			}
		}
	}
	for _, given := range loadMems() {
		got, ok := impl.HostLoad(roomyMem(given))
		want, wantOk := impl.HostLoad(given)
		if ok != wantOk || !sameHost(got, want) {
			t.Fatalf("what is behind the ends of %v counts", given)
		}
	}
	// What is cut off is lacking, though it lies behind the end.
	cuts := []func(*impl.Host){
		func(h *impl.Host) { h.Frames = h.Frames[:impl.FrameMax-1] },
		func(h *impl.Host) { h.Frames[2] = h.Frames[2][:impl.OffMax-1] },
		func(h *impl.Host) { h.Guests = h.Guests[:0] },
		func(h *impl.Host) { h.Guests[1].Maps = h.Guests[1].Maps[:impl.PageMax-1] },
		func(h *impl.Host) { h.Guests[1].Shades = h.Guests[1].Shades[:impl.PageMax-1] },
		func(h *impl.Host) { h.Guests[1].Disk = h.Guests[1].Disk[:impl.PageMax-1] },
		func(h *impl.Host) { h.Guests[0].Disk[0] = h.Guests[0].Disk[0][:impl.OffMax-1] },
	}
	for i, cut := range cuts {
		h := fullHost()
		if cut(&h); impl.HostOk(h) || len(impl.HostSee(h, 0)) != 0 || len(impl.HostFree(h)) != 0 {
			t.Errorf("cut %d: what is cut off counts", i)
		}
	}
}

func TestListsThatShareMemoryAreHandedOutApart(t *testing.T) {
	words := []int{1, 2, 3, 4}
	h, ok := impl.HostLoad(slices.Repeat([][]int{words}, 2*impl.PageMax))
	wantLoaded(t, "one page handed in twelve times", h, ok, slices.Repeat([][]int{words}, impl.PageMax), slices.Repeat([][]int{words}, impl.PageMax))
	wantApart(t, "one page handed in twelve times", hostCells(h), cells(words))

	// Both guests have the same lists, and all frames, and all on disk, are one page.
	g := impl.Guest{Maps: make([]impl.Map, impl.PageMax), Disk: slices.Repeat([][]int{words}, impl.PageMax), Shades: make([]impl.Shade, impl.PageMax)}
	alike := impl.Host{Frames: slices.Repeat([][]int{words}, impl.FrameMax), Guests: []impl.Guest{g, g}}
	if mem := impl.HostSee(alike, 1); !impl.HostOk(alike) || !sameMem(mem, g.Disk) {
		t.Errorf("of lists that share memory one sees %v", mem)
	} else {
		wantApart(t, "HostSee of lists that share memory", memCells(mem), cells(words))
	}

	// Pages in one frame are seen as pages of their own.
	for guest := range impl.GuestMax {
		shared := oneFrame(4)
		wantApart(t, "HostSee of one frame", memCells(impl.HostSee(shared, guest)), hostCells(shared))
	}
}

func TestAnswersOfHostCallsCanBeHandedInAgain(t *testing.T) {
	for _, h := range okHosts()[:100] {
		var mems [][]int
		for guest := range h.Guests {
			mems = append(mems, impl.HostSee(h, guest)...)
		}
		again, ok := impl.HostLoad(mems)
		if !ok || !impl.HostOk(again) || len(impl.HostFree(again)) != impl.FrameMax {
			t.Fatalf("what guests of %v have is loaded as %v, %v", h, again, ok)
		}
		for guest := range h.Guests {
			if !sameMem(impl.HostSee(again, guest), seenMem(h, guest)) {
				t.Fatalf("what guests of %v have is loaded as %v", h, again)
			}
		}
	}
}
