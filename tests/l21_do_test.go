package tests

import (
	"fmt"
	"slices"
	"testing"

	"loop.example/casket/impl"
)

// wantDone fails if HostDo of an ok host does not answer what it has to.
func wantDone(t *testing.T, h impl.Host, a impl.Act) came {
	t.Helper()
	got := hostDo(h, a)
	wantCame(t, fmt.Sprintf("HostDo of %v of\n%v", a, h), got, doneOf(h, a))
	return got
}

func TestHostDoAtTheEdges(t *testing.T) {
	for _, h := range badHosts() {
		for kind := 0; kind <= impl.ActCarry+1; kind++ {
			for _, a := range edgeActs(kind, len(h.Guests)) {
				wantDone(t, h, a)
			}
		}
	}
}

// kindActs are acts of each kind, of that place and frame.
func kindActs(p page, off, word, frame int) []impl.Act {
	return []impl.Act{
		actRead(p, off), actWrite(p, off, word), actReadIn(p, off), actWriteIn(p, off, word), actForget(p.guest),
		actOut(p), actJoin(), actMove(frame), actCarry(),
	}
}

// eachAct hands on hosts of all kinds, and acts of each kind with each.
func eachAct(look func(h impl.Host, a impl.Act)) {
	for i, h := range accHosts() {
		for j, p := range hostPages(h) {
			for _, a := range kindActs(p, someOff(i, p), (i+7*j)%(impl.WordMax+1), (i+j)%impl.FrameMax) {
				look(h, a)
			}
		}
	}
}

func TestHostDoAsTheDocumentSays(t *testing.T) {
	tells := map[int]int{}
	eachAct(func(h impl.Host, a impl.Act) {
		tells[min(wantDone(t, h, a).told, 0)]++
	})
	if tells[0] < 1000 || tells[impl.GotFault] < 300 || tells[impl.GotDenied] < 300 || tells[impl.GotBad] < 1000 {
		t.Errorf("of what HostDo told there are just %v", tells)
	}
}

func TestHostDoOfEachReach(t *testing.T) {
	for i, r := range append(reachHosts(), shadedReaches()...) {
		wantDone(t, r.h, actReadIn(r.from, i%impl.OffMax))
		wantDone(t, r.h, actWriteIn(r.from, i%impl.OffMax, i%(impl.WordMax+1)))
	}
}

func TestP80HostDoLeavesWhatIsAnothers(t *testing.T) {
	eachAct(func(h impl.Host, a impl.Act) {
		got := hostDo(h, a)
		what := fmt.Sprint("HostDo of ", a)
		if !ofGuests(a) {
			wantMemory(t, what, got.h, h)
			return
		}
		wantChanged(t, what, got.h, h, a.Guest, impl.HostSee(got.h, a.Guest))
	})
}

func TestP80WhatTheHostDoesIsLeft(t *testing.T) {
	// Whatever the act names beside what its kind needs, and whether anything comes of it or not.
	for _, h := range fewAccHosts() {
		for kind := impl.ActOut; kind <= impl.ActCarry+1; kind++ {
			for at := -1; at <= impl.FrameMax; at++ {
				for guest := -1; guest <= len(h.Guests); guest++ {
					a := impl.Act{Kind: kind, Guest: guest, Page: at, Off: 1, Word: 9}
					wantMemory(t, fmt.Sprint("HostDo of ", a), hostDo(h, a).h, h)
				}
			}
		}
	}
}

func TestP88ActsOfWhatThereIsNoneOf(t *testing.T) {
	for _, h := range badHosts() {
		var bad []impl.Act
		for _, kind := range noKinds() {
			bad = append(bad, impl.Act{Kind: kind}, impl.Act{Kind: kind, Guest: 7, Page: 1, Off: 1, Word: 1})
		}
		for kind := impl.ActRead; kind <= impl.ActOut; kind++ {
			for _, guest := range noGuestNumbers(len(h.Guests)) {
				bad = append(bad, impl.Act{Kind: kind, Guest: guest, Page: 2, Word: 1})
			}
			if kind == impl.ActForget {
				continue
			}
			for _, at := range farPages() {
				bad = append(bad, impl.Act{Kind: kind, Page: at, Word: 1})
			}
		}
		for kind := impl.ActRead; kind <= impl.ActWriteIn; kind++ {
			for _, at := range noPlaces(impl.PageMax) {
				bad = append(bad, impl.Act{Kind: kind, Page: at.page, Off: at.off, Word: 1})
			}
		}
		for _, word := range noWords() {
			bad = append(bad, actWrite(page{0, 2}, 1, word), actWriteIn(page{0, 2}, 1, word))
		}
		for _, frame := range noFrames() {
			bad = append(bad, actMove(frame))
		}
		for _, a := range bad {
			wantCame(t, fmt.Sprint("HostDo of ", a), hostDo(h, a), came{h, impl.GotBad})
		}
	}
}

func TestActsThatNameMoreThanTheirKindNeeds(t *testing.T) {
	// What an act of that kind does not need is not asked for.
	h := fullHost()
	h.Frames[2] = slices.Clone(h.Frames[6])
	h = pagedOut(h, page{0, 3})
	wrong := []int{-1, -1 << 32, impl.WordMax + 1, 1000}
	for _, w := range wrong {
		cases := []struct {
			what     string
			act, all impl.Act
		}{
			{"ActRead without a word", actRead(page{0, 2}, 1), impl.Act{Kind: impl.ActRead, Page: 2, Off: 1, Word: w}},
			{"ActReadIn without a word", actReadIn(page{0, 0}, 1), impl.Act{Kind: impl.ActReadIn, Off: 1, Word: w}},
			{"ActForget with a guest alone", actForget(1), impl.Act{Kind: impl.ActForget, Guest: 1, Page: w, Off: w, Word: w}},
			{"ActOut with a page alone", actOut(page{1, 3}), impl.Act{Kind: impl.ActOut, Guest: 1, Page: 3, Off: w, Word: w}},
			{"ActJoin with nothing", actJoin(), impl.Act{Kind: impl.ActJoin, Guest: w, Page: w, Off: w, Word: w}},
			{"ActMove with a frame alone", actMove(7), impl.Act{Kind: impl.ActMove, Guest: w, Page: 7, Off: w, Word: w}},
			{"ActCarry with nothing", actCarry(), impl.Act{Kind: impl.ActCarry, Guest: w, Page: w, Off: w, Word: w}},
		}
		for _, c := range cases {
			got := hostDo(h, c.all)
			wantCame(t, c.what, got, hostDo(h, c.act))
			if got.told < 0 || sameHost(got.h, h) && c.act.Kind > impl.ActReadIn {
				t.Errorf("%s: %d is told", c.what, got.told)
			}
		}
	}
}

func TestHostDoOfHostsThatAreNotOk(t *testing.T) {
	for _, w := range wrongHosts() {
		for kind := 0; kind <= impl.ActCarry+1; kind++ {
			for _, guest := range []int{-1, 0, 1} {
				wantBad(t, w.what, hostDo(w.h, impl.Act{Kind: kind, Guest: guest, Page: 2, Off: 1, Word: 3}))
			}
		}
	}
	for _, h := range []impl.Host{{}, {Frames: evenMem(impl.FrameMax, 0)}, {Hand: 3}} {
		for kind := 0; kind <= impl.ActCarry+1; kind++ {
			wantBad(t, "a host with next to nothing", hostDo(h, impl.Act{Kind: kind}))
		}
	}
}

func TestP103HostDoOfGuests(t *testing.T) {
	bad := 0
	eachAct(func(h impl.Host, a impl.Act) {
		p := page{a.Guest, a.Page}
		want := map[int]func() came{
			impl.ActRead:    func() came { return hostRead(h, p, a.Off) },
			impl.ActWrite:   func() came { return hostWrite(h, p, a.Off, a.Word) },
			impl.ActReadIn:  func() came { return hostReadIn(h, p, a.Off) },
			impl.ActWriteIn: func() came { return hostWriteIn(h, p, a.Off, a.Word) },
			impl.ActForget:  func() came { return came{impl.HostForget(h, a.Guest), 0} },
		}
		if asked := want[a.Kind]; asked != nil {
			wantCame(t, fmt.Sprint("HostDo of ", a), hostDo(h, a), asked())
		}
	})
	for _, h := range badHosts() {
		for kind := impl.ActRead; kind <= impl.ActForget; kind++ {
			for _, a := range edgeActs(kind, len(h.Guests)) {
				if !there(h, a) {
					wantCame(t, fmt.Sprint("HostDo of ", a), hostDo(h, a), came{h, impl.GotBad})
					bad++
				}
			}
		}
	}
	if bad < 1000 {
		t.Errorf("just %d were bad", bad)
	}
}

func TestP104HostDoOfTheHost(t *testing.T) {
	tells := map[[2]int]int{}
	for i, h := range append(accHosts(), pageHosts()...) {
		wants := map[impl.Act]came{actJoin(): cameIf(impl.PageJoin(h)), actCarry(): {impl.HostCarry(h), 0}}
		for frame := range impl.FrameMax {
			wants[actMove(frame)] = cameIf(impl.PageMove(h, frame))
		}
		for _, p := range hostPages(h) {
			wants[actOut(p)] = came{impl.PageOut(h, p.guest, p.page), 0}
		}
		for a, want := range wants {
			got := hostDo(h, a)
			wantCame(t, fmt.Sprint(i, ": HostDo of ", a), got, want)
			if got.told == impl.GotBad {
				wantHost(t, "a bad act of the host", got.h, h)
			}
			tells[[2]int{a.Kind, got.told}]++
		}
		for _, a := range []impl.Act{actMove(-1), actMove(impl.FrameMax), actOut(page{-1, 0}), actOut(page{len(h.Guests), 0}), actOut(page{0, -1}), actOut(page{0, impl.PageMax})} {
			wantCame(t, fmt.Sprint("HostDo of ", a), hostDo(h, a), came{h, impl.GotBad})
		}
	}
	for _, kind := range []int{impl.ActJoin, impl.ActMove} {
		if tells[[2]int{kind, 0}] < 50 || tells[[2]int{kind, impl.GotBad}] < 50 {
			t.Errorf("what came of them is %v", tells)
		}
	}
}

func TestJoinsAndMovesThatCannotBe(t *testing.T) {
	full := fullHost()
	if len(freeFrames(full)) != 0 || len(twinFrames(full)) != 0 {
		t.Fatalf("the host is %v", full)
	}
	wantCame(t, "ActJoin with no two that have the same", hostDo(full, actJoin()), came{full, impl.GotBad})
	for frame := range impl.FrameMax {
		wantCame(t, "ActMove with no frame free", hostDo(full, actMove(frame)), came{full, impl.GotBad})
	}
	for _, h := range []impl.Host{oneOut(), twoOut(), newHost(1), newHost(2)} {
		wantCame(t, "ActJoin with all pages out", hostDo(h, actJoin()), came{h, impl.GotBad})
		for frame := range impl.FrameMax {
			wantCame(t, "ActMove of a free frame", hostDo(h, actMove(frame)), came{h, impl.GotBad})
		}
	}
	// Noughts that lie in free frames are no twins of those in one that is used.
	one := hostDo(newHost(1), actRead(page{0, 3}, 0)).h
	wantCame(t, "ActJoin with one frame that is used", hostDo(one, actJoin()), came{one, impl.GotBad})
	moved := hostDo(one, actMove(0))
	if m := mapOf(moved.h, page{0, 3}); moved.told != 0 || m != (impl.Map{In: true, Frame: 1, Write: true}) {
		t.Errorf("ActMove of frame 0 is %v", moved)
	}
	wantCame(t, "ActMove of the frame that became free", hostDo(moved.h, actMove(0)), came{moved.h, impl.GotBad})
	two := hostDo(one, actRead(page{0, 5}, 0)).h
	joined := hostDo(two, actJoin())
	if joined.told != 0 || len(inFrame(joined.h, 0)) != 2 {
		t.Errorf("ActJoin of two is %v", joined)
	}
}

func TestHostsBehindAFaultAndWhatIsDenied(t *testing.T) {
	// The walk brings the page of the table in; nothing else is changed, but a shade that might not be written goes.
	h := knownHost()
	in := pagedIn(h, page{0, 0})
	wantCame(t, "ActReadIn that leads nowhere", hostDo(h, actReadIn(page{0, 2}, 1)), came{in, impl.GotFault})
	wantCame(t, "ActWriteIn that leads nowhere", hostDo(h, actWriteIn(page{0, 2}, 1, 5)), came{in, impl.GotFault})
	denied := hostDo(h, actWriteIn(page{0, 1}, 1, 5))
	wantCame(t, "ActWriteIn that is denied", denied, came{in, impl.GotDenied})
	wantMemory(t, "what is denied", denied.h, h)
	read := hostDo(h, actReadIn(page{0, 1}, 1))
	if read.told != 12 || !shadeOf(read.h, page{0, 1}).Has {
		t.Fatalf("ActReadIn is %v", read)
	}
	again := hostDo(read.h, actWriteIn(page{0, 1}, 1, 5))
	wantCame(t, "ActWriteIn that is denied, with a shade", again, came{shaded(read.h, page{0, 1}, impl.Shade{}), impl.GotDenied})
	// In a play it goes on from there.
	full := fullTable(2)
	full = entered(full, page{0, 2}, impl.Entry{})
	fault := hostDo(full, actReadIn(page{0, 2}, 3))
	if fault.told != impl.GotFault || fault.h.Hand != 3 || mapOf(fault.h, page{0, 0}).Frame != 2 || mapOf(fault.h, page{0, 1}).In {
		t.Errorf("a fault without a free frame: %v", fault)
	}
}

func TestHostCarryAsTheDocumentSays(t *testing.T) {
	for _, h := range append(okHosts(), accHosts()...) {
		wantHost(t, "HostCarry", impl.HostCarry(h), carriedOf(h))
	}
}

// carryHosts are hosts of all kinds that a host may be carried from.
func carryHosts() map[string]impl.Host {
	in := oneOut()
	for at := range impl.PageMax {
		in = bring(in, page{0, at}, impl.FrameMax-1-at, at%2 == 0)
	}
	hand := twoOut()
	hand.Hand = impl.FrameMax - 1
	shared := bring(bring(bring(twoOut(), page{0, 1}, 4, false), page{0, 3}, 4, false), page{1, 3}, 4, false)
	return map[string]impl.Host{
		"all pages in": in, "all pages out": twoOut(), "one guest": oneOut(), "some shared": shared, "all in one frame": oneFrame(3), "with shades": allShades(),
		"a hand that is not 0": hand, "no frame free": fullHost(), "all of that": tabled(bothAtHand(impl.FrameMax-1), 5), "noughts": newHost(2),
	}
}

func TestP87HostCarry(t *testing.T) {
	look := func(what string, h impl.Host) {
		got := impl.HostCarry(h)
		wantMemory(t, what+": HostCarry", got, h)
		if !slices.Equal(impl.HostFree(got), []int{0, 1, 2, 3, 4, 5, 6, 7}) || got.Hand != 0 {
			t.Fatalf("%s: HostCarry of\n%v is\n%v", what, h, got)
		}
		for guest := range h.Guests {
			if shadesOf(got, guest) != 0 {
				t.Fatalf("%s: HostCarry of\n%v is\n%v", what, h, got)
			}
		}
		wantHost(t, what+": HostCarry twice", impl.HostCarry(got), got)
		var mems [][]int
		for guest := range h.Guests {
			mems = append(mems, impl.HostSee(h, guest)...)
		}
		loaded, ok := impl.HostLoad(mems)
		if !ok {
			t.Fatalf("%s: all memory cannot be loaded: %v", what, mems)
		}
		wantHost(t, what+": HostCarry", got, loaded)
	}
	for what, h := range carryHosts() {
		look(what, h)
	}
	for _, h := range accHosts() {
		look("thrown", h)
	}
}

func TestHostCarryOfHostsThatAreNotOk(t *testing.T) {
	for _, w := range wrongHosts() {
		wantHost(t, w.what, impl.HostCarry(w.h), impl.Host{})
	}
	wantHost(t, "HostCarry of nothing", impl.HostCarry(impl.Host{}), impl.Host{})
}

func TestP99ReadingInBehindHostCarry(t *testing.T) {
	words := 0
	for _, h := range fewAccHosts() {
		carried := impl.HostCarry(h)
		for _, p := range hostPages(h) {
			for off := range impl.OffMax {
				want := impl.FlatReadIn(impl.HostSee(h, p.guest), p.page, off)
				if got := hostReadIn(carried, p, off); got.told != want {
					t.Fatalf("behind HostCarry of\n%v HostReadIn of place %d of %v is %d, and has to be %d", h, off, p, got.told, want)
				}
				if isWord(want) {
					words++
				}
			}
		}
	}
	if words < 500 {
		t.Errorf("just %d words", words)
	}
}

func TestP99AShadeThatLedElsewhereIsNotCarried(t *testing.T) {
	h := hostReadIn(knownHost(), page{0, 0}, 1).h
	h = hostWrite(h, page{0, 0}, 0, impl.EntryNum(impl.Entry{Has: true, Page: 3})).h
	if got := hostReadIn(h, page{0, 0}, 1); got.told != 2 {
		t.Fatalf("by the shade %d is read", got.told)
	}
	if got := hostReadIn(impl.HostCarry(h), page{0, 0}, 1); got.told != 12 {
		t.Errorf("behind HostCarry %d is read", got.told)
	}
}
