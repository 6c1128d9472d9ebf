package tests

import (
	"fmt"
	"slices"
	"testing"

	"loop.example/casket/impl"
)

// oldWay is a play of a guest whose own guest has read, and written, page 2 by its page 0; then the table leads from there to page 3, and nothing is forgotten.
func oldWay(guest int) []impl.Act {
	return []impl.Act{
		actWrite(page{guest, 2}, 1, 20), actWrite(page{guest, 3}, 1, 30), actWrite(page{1 - guest, 2}, 1, 40),
		actEntry(page{guest, 0}, impl.Entry{Has: true, Page: 2, Write: true}), actForget(guest),
		actReadIn(page{guest, 0}, 1), actEntry(page{guest, 0}, impl.Entry{Has: true, Page: 3, Write: true}),
	}
}

// wantOldWay fails if other numbers come of acts behind that play.
func wantOldWay(t *testing.T, what string, guest int, acts []impl.Act, told ...int) impl.Host {
	t.Helper()
	all := append(oldWay(guest), acts...)
	got := hostPlay(2, all)
	wantTold(t, what, all, got.told[len(oldWay(guest)):], told)
	return got.h
}

func TestAGuestThatChangesItsTableAndGoesOn(t *testing.T) {
	for guest := range 2 {
		in := page{guest, 0}
		wantTidy(t, "what was done up to there", true, oldWay(guest)...)
		wantTidy(t, "going on", false, append(oldWay(guest), actReadIn(in, 1))...)
		wantOldWay(t, "the shade leads where the table led", guest, []impl.Act{actReadIn(in, 1), actReadIn(in, 1)}, 20, 20)
		h := wantOldWay(t, "it is written by the shade, too", guest, []impl.Act{actWriteIn(in, 1, 21), actReadIn(in, 1), actRead(page{guest, 2}, 1), actRead(page{guest, 3}, 1)}, 20, 21, 21, 30)
		wantSeen(t, "what is the other's", h, 1-guest, changedMem(evenMem(impl.PageMax, 0), place{2, 1}, 40))
		wantOldWay(t, "behind ActForget it is the table", guest, []impl.Act{actForget(guest), actReadIn(in, 1), actWriteIn(in, 1, 31), actRead(page{guest, 3}, 1)}, 0, 30, 30, 31)
		wantOldWay(t, "the other's ActForget is none", guest, []impl.Act{actForget(1 - guest), actReadIn(in, 1)}, 0, 20)
		wantOldWay(t, "ActForget too late", guest, []impl.Act{actReadIn(in, 1), actForget(guest), actReadIn(in, 1)}, 20, 0, 30)
	}
}

func TestWhatTheHostDoesLetsAnOldWayBeForgotten(t *testing.T) {
	for guest := range 2 {
		in := page{guest, 0}
		// Page 2 of the guest is in frame 0 or 1, by who was written first; each way the shade to it goes.
		frame := mapOf(hostPlay(2, oldWay(guest)).h, page{guest, 2}).Frame
		wantOldWay(t, "ActOut of the page", guest, []impl.Act{actOut(page{guest, 2}), actReadIn(in, 1)}, 0, 30)
		wantOldWay(t, "ActOut of another page", guest, []impl.Act{actOut(page{guest, 3}), actOut(page{guest, 0}), actOut(page{1 - guest, 2}), actReadIn(in, 1)}, 0, 0, 0, 20)
		wantOldWay(t, "ActMove of its frame", guest, []impl.Act{actMove(frame), actReadIn(in, 1)}, 0, 30)
		wantOldWay(t, "ActMove of another frame", guest, []impl.Act{actMove(frame + 1), actReadIn(in, 1)}, 0, 20)
		wantOldWay(t, "ActCarry", guest, []impl.Act{actCarry(), actReadIn(in, 1)}, 0, 30)
		wantOldWay(t, "ActJoin with a page of the other guest", guest, []impl.Act{actWrite(page{1 - guest, 2}, 1, 20), actJoin(), actReadIn(in, 1)}, 40, 0, 30)
		wantOldWay(t, "ActJoin that cannot be", guest, []impl.Act{actJoin(), actReadIn(in, 1)}, impl.GotBad, 20)
	}
}

func TestAnEntryThatIsTakenAwayOrMayNotBeWrittenAnyMore(t *testing.T) {
	in := page{0, 0}
	away := actEntry(in, impl.Entry{})
	barred := actEntry(in, impl.Entry{Has: true, Page: 2})
	wantOldWay(t, "taken away", 0, []impl.Act{away, actReadIn(in, 1), actWriteIn(in, 1, 22), actRead(page{0, 2}, 1)}, 8, 20, 20, 22)
	wantOldWay(t, "taken away, and forgotten", 0, []impl.Act{away, actForget(0), actReadIn(in, 1), actWriteIn(in, 1, 22), actRead(page{0, 2}, 1)}, 8, 0, impl.GotFault, impl.GotFault, 20)
	wantOldWay(t, "not to be written", 0, []impl.Act{barred, actWriteIn(in, 1, 22), actRead(page{0, 2}, 1)}, 8, 20, 22)
	wantOldWay(t, "not to be written, and forgotten", 0, []impl.Act{barred, actForget(0), actWriteIn(in, 1, 22), actReadIn(in, 1)}, 8, 0, impl.GotDenied, 20)
}

func TestAnOldWayNeverLeadsToAnother(t *testing.T) {
	// The frame to which the shade led is another guest's then; nobody reads or writes it by the shade.
	for guest := range 2 {
		in, other := page{guest, 0}, page{1 - guest, 4}
		frame := mapOf(hostPlay(2, oldWay(guest)).h, page{guest, 2}).Frame
		taken := append(oldWay(guest), actOut(page{guest, 2}), actWrite(other, 1, 50))
		h := hostPlay(2, taken).h
		if mapOf(h, other).Frame != frame {
			t.Fatalf("the other guest's page is in frame %d, and not in %d", mapOf(h, other).Frame, frame)
		}
		read := hostDo(h, actReadIn(in, 1))
		wrote := hostDo(h, actWriteIn(in, 1, 33))
		if read.told != 30 || wrote.told != 30 {
			t.Errorf("%d is read, and %d was there", read.told, wrote.told)
		}
		wantMemory(t, "what is read in", read.h, h)
		wantChanged(t, "what is written in", wrote.h, h, guest, changedMem(impl.HostSee(h, guest), place{3, 1}, 33))
	}
}

func TestASharedPageIsNotWrittenByAnOldWay(t *testing.T) {
	// Both guests' page 2 has the same, and is shared; by the table, which leads there again, the one that writes has a page of its own.
	for guest := range 2 {
		in := page{guest, 0}
		acts := append(oldWay(guest), actWrite(page{1 - guest, 2}, 1, 20), actJoin(), actEntry(in, impl.Entry{Has: true, Page: 2, Write: true}), actReadIn(in, 1), actWriteIn(in, 1, 25), actReadIn(in, 1))
		got := hostPlay(2, acts)
		wantTold(t, "a page that is shared", acts, got.told[len(oldWay(guest)):], []int{40, 0, 8, 20, 20, 25})
		wantSeen(t, "a page that is shared", got.h, 1-guest, changedMem(evenMem(impl.PageMax, 0), place{2, 1}, 20))
	}
}

// stubbornActs are acts of guests that change the first entries of their tables again and again, and hardly ever forget.
func stubbornActs(seed, guests, count int) []impl.Act {
	d := &dice{uint64(seed)*6007 + 17}
	var acts []impl.Act
	for len(acts) < count {
		a := d.act(guests)
		switch {
		case !ofGuests(a) && a.Kind != impl.ActMove || a.Kind == impl.ActForget:
			if d.roll(4) > 0 {
				continue
			}
		case a.Kind == impl.ActReadIn || a.Kind == impl.ActWriteIn:
			a.Page %= 2
		case a.Kind == impl.ActWrite && a.Page < impl.TabLow && a.Page >= 0:
			a.Page, a.Off = 0, a.Off%2
		}
		acts = append(acts, a)
	}
	return acts
}

// byOldWay says whether an act is done by a shade that leads elsewhere than the table.
func byOldWay(h impl.Host, a impl.Act) bool {
	in := a.Kind == impl.ActReadIn || a.Kind == impl.ActWriteIn && shadeOfAct(h, a).Write
	return in && shadeOfAct(h, a).Has && !tableTells(h, page{a.Guest, a.Page})
}

// standsIn says whether a word stands at that place of a page that a guest may give.
func standsIn(mem [][]int, off, word int) bool {
	return slices.ContainsFunc(mem[impl.TabLow:], func(words []int) bool { return words[off] == word })
}

// wantNever fails if an act of any play leaves a host that is not ok, or lets one guest have or change what is another's.
func wantNever(t *testing.T, h impl.Host, a impl.Act) came {
	t.Helper()
	got := hostDo(h, a)
	if !impl.HostOk(got.h) {
		t.Fatalf("behind %v of\n%v the host is not ok:\n%v", a, h, got.h)
	}
	checkNotShared(t, got.h)
	if a.Kind == impl.ActReadIn && isWord(got.told) && !standsIn(impl.HostSee(got.h, a.Guest), a.Off, got.told) {
		t.Fatalf("behind %v of\n%v %d is told, which is not the guest's", a, h, got.told)
	}
	for guest := range h.Guests {
		if !ofGuest(a, guest) {
			wantSeen(t, fmt.Sprint("behind ", a), got.h, guest, seenMem(h, guest))
		}
	}
	return got
}

func TestP85NeverWhatIsAnothers(t *testing.T) {
	byOld := 0
	for _, thrown := range []func(seed, guests, count int) []impl.Act{thrownActs, stubbornActs} {
		for seed := range manyPlays {
			h := newHost(guestsOf(seed))
			for _, a := range thrown(seed, guestsOf(seed), 100) {
				if byOldWay(h, a) {
					byOld++
				}
				h = wantNever(t, h, a).h
			}
		}
	}
	if byOld < 300 {
		t.Errorf("just %d were done by a shade that led elsewhere than the table", byOld)
	}
}

func TestP85WordsThatAreOneGuestsAlone(t *testing.T) {
	// Guest 0 writes words below 32, and guest 1 those from 32 on, to pages that each may give; so a word tells whose it is.
	words, byOld := 0, 0
	for seed := range manyPlays {
		h := newHost(2)
		for _, a := range stubbornActs(seed+900, 2, 100) {
			if ofGuests(a) && a.Page >= impl.TabLow || a.Kind == impl.ActWriteIn {
				a.Word = (a.Word+1)%3 + 32*(a.Guest&1)
			}
			if byOldWay(h, a) {
				byOld++
			}
			got := wantNever(t, h, a)
			if a.Kind == impl.ActReadIn && got.told > 0 {
				words++
				if got.told/32 != a.Guest {
					t.Fatalf("guest %d's own guest reads %d", a.Guest, got.told)
				}
			}
			h = got.h
		}
	}
	if words < 300 || byOld < 150 {
		t.Errorf("just %d words were read in, %d by a shade that led elsewhere", words, byOld)
	}
}

func TestP89BehindForgettingItIsTheTable(t *testing.T) {
	words := 0
	eachPlay(anyActs, func(seed, guests int, acts []impl.Act) {
		for _, count := range []int{seed % impl.PlayMax, impl.PlayMax - 1} {
			for guest := range guests {
				h := hostPlay(guests, append(slices.Clone(acts[:count]), actForget(guest))).h
				mem := impl.HostSee(h, guest)
				row := h
				for _, at := range places(impl.PageMax) {
					a := actReadIn(page{guest, at.page}, at.off)
					want := impl.FlatReadIn(mem, at.page, at.off)
					// Each from there, and all of them in a row.
					next := hostDo(row, a)
					if got := hostDo(h, a); got.told != want || next.told != want {
						t.Fatalf("%v is %d, and %d in a row, and has to be %d, of\n%v", a, got.told, next.told, want, h)
					}
					row = next.h
					if isWord(want) {
						words++
					}
				}
			}
		}
	})
	if words < 2000 {
		t.Errorf("just %d words", words)
	}
}

func TestP90AnEntryTakenAway(t *testing.T) {
	same, fault := 0, 0
	eachPlay(anyActs, func(seed, guests int, acts []impl.Act) {
		h := hostPlay(guests, acts).h
		for _, p := range hostPages(h) {
			off := someOff(seed, p)
			first := hostDo(hostDo(h, actForget(p.guest)).h, actReadIn(p, off))
			away := hostDo(first.h, actEntry(p, impl.Entry{}))
			again := hostDo(away.h, actReadIn(p, off))
			if again.told != first.told && again.told != impl.GotFault {
				t.Fatalf("%d is read, and %d then, of\n%v", first.told, again.told, h)
			}
			if isWord(again.told) {
				same++
			}
			behind := hostDo(hostDo(away.h, actForget(p.guest)).h, actReadIn(p, off))
			if behind.told != impl.GotFault {
				t.Fatalf("behind ActForget %d is read, of\n%v", behind.told, h)
			}
			fault++
		}
	})
	if same < 100 || fault < 100 {
		t.Errorf("just %d the same, and %d faults", same, fault)
	}
}

func TestP90AnEntryTakenAwayWithoutAFreeFrame(t *testing.T) {
	// By the walk pages 0 and 5 came in; with page 0 out once more, and the hand at the frame of page 5, the write to the table takes page 5 out, and the shade with it.
	h := entered(fullTable(0), page{0, 2}, impl.Entry{Has: true, Page: 5, Write: true})
	read := hostDo(h, actReadIn(page{0, 2}, 3))
	h = filled(hostDo(read.h, actOut(page{0, 0})).h, page{0, 0})
	h.Hand = mapOf(h, page{0, 5}).Frame
	if len(freeFrames(h)) != 0 || !impl.HostOk(h) {
		t.Fatalf("the host is %v", h)
	}
	away := hostDo(h, actEntry(page{0, 2}, impl.Entry{}))
	if again := hostDo(away.h, actReadIn(page{0, 2}, 3)); !isWord(read.told) || again.told != impl.GotFault || mapOf(away.h, page{0, 5}).In {
		t.Errorf("%d is read, and %d then, of\n%v", read.told, again.told, away.h)
	}
}
