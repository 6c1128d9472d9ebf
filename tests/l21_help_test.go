package tests

import (
	"slices"
	"testing"

	"loop.example/casket/impl"
)

// actRead and those that follow are acts of each kind, with no more named than the kind needs.
func actRead(p page, off int) impl.Act {
	return impl.Act{Kind: impl.ActRead, Guest: p.guest, Page: p.page, Off: off}
}

func actWrite(p page, off, word int) impl.Act {
	return impl.Act{Kind: impl.ActWrite, Guest: p.guest, Page: p.page, Off: off, Word: word}
}

func actReadIn(p page, off int) impl.Act {
	return impl.Act{Kind: impl.ActReadIn, Guest: p.guest, Page: p.page, Off: off}
}

func actWriteIn(p page, off, word int) impl.Act {
	return impl.Act{Kind: impl.ActWriteIn, Guest: p.guest, Page: p.page, Off: off, Word: word}
}

func actForget(guest int) impl.Act {
	return impl.Act{Kind: impl.ActForget, Guest: guest}
}

func actOut(p page) impl.Act {
	return impl.Act{Kind: impl.ActOut, Guest: p.guest, Page: p.page}
}

func actJoin() impl.Act {
	return impl.Act{Kind: impl.ActJoin}
}

func actMove(frame int) impl.Act {
	return impl.Act{Kind: impl.ActMove, Page: frame}
}

func actCarry() impl.Act {
	return impl.Act{Kind: impl.ActCarry}
}

// actEntry is the write to its table by which a guest gives that entry to a page of its own guest.
func actEntry(p page, e impl.Entry) impl.Act {
	at := tabPlaces()[p.page]
	return actWrite(page{p.guest, at.page}, at.off, impl.EntryNum(e))
}

// ofGuests says whether an act is one of a guest, and not of the host.
func ofGuests(a impl.Act) bool {
	return slices.Contains([]int{impl.ActRead, impl.ActWrite, impl.ActReadIn, impl.ActWriteIn, impl.ActForget}, a.Kind)
}

func ofGuest(a impl.Act, guest int) bool {
	return ofGuests(a) && a.Guest == guest
}

// kept are the acts that are such, in their order.
func kept(acts []impl.Act, such func(impl.Act) bool) []impl.Act {
	var some []impl.Act
	for _, a := range acts {
		if such(a) {
			some = append(some, a)
		}
	}
	return some
}

// actsOf are a guest's own acts; without the host's are those of all guests.
func actsOf(acts []impl.Act, guest int) []impl.Act {
	return kept(acts, func(a impl.Act) bool { return ofGuest(a, guest) })
}

func withoutHost(acts []impl.Act) []impl.Act {
	return kept(acts, ofGuests)
}

// toldTo is what came of a guest's own acts, of all that came.
func toldTo(acts []impl.Act, told []int, guest int) []int {
	var own []int
	for i, a := range acts {
		if ofGuest(a, guest) {
			own = append(own, told[i])
		}
	}
	return own
}

// there says whether a host has all that an act of its kind names.
func there(h impl.Host, a impl.Act) bool {
	guest := a.Guest >= 0 && a.Guest < len(h.Guests)
	at := a.Page >= 0 && a.Page < impl.PageMax
	off := a.Off >= 0 && a.Off < impl.OffMax
	switch a.Kind {
	case impl.ActRead, impl.ActReadIn:
		return guest && at && off
	case impl.ActWrite, impl.ActWriteIn:
		return guest && at && off && isWord(a.Word)
	case impl.ActForget:
		return guest
	case impl.ActOut:
		return guest && at
	case impl.ActMove:
		return a.Page >= 0 && a.Page < impl.FrameMax
	}
	return a.Kind == impl.ActJoin || a.Kind == impl.ActCarry
}

// doneOf is what HostDo has to answer, of an ok host.
func doneOf(h impl.Host, a impl.Act) came {
	if !there(h, a) {
		return came{copyHost(h), impl.GotBad}
	}
	p := page{a.Guest, a.Page}
	switch a.Kind {
	case impl.ActRead:
		return readOf(h, p, a.Off)
	case impl.ActWrite:
		return writeOf(h, p, a.Off, a.Word)
	case impl.ActReadIn:
		return readInOf(h, p, a.Off)
	case impl.ActWriteIn:
		return writeInOf(h, p, a.Off, a.Word)
	case impl.ActForget:
		return came{forgotOf(h, a.Guest), 0}
	case impl.ActOut:
		return came{pagedOut(h, p), 0}
	case impl.ActJoin:
		return cameIf(pageJoined(h))
	case impl.ActMove:
		return cameIf(pageMoved(h, a.Page))
	}
	return came{carriedOf(h), 0}
}

// cameIf is 0 where the host did what it was to do.
func cameIf(h impl.Host, ok bool) came {
	if !ok {
		return came{h, impl.GotBad}
	}
	return came{h, 0}
}

// carriedOf is what HostCarry has to answer, of an ok host.
func carriedOf(h impl.Host) impl.Host {
	var mems [][][]int
	for guest := range h.Guests {
		mems = append(mems, seenMem(h, guest))
	}
	made := outHost(mems...)
	made.Frames = evenMem(impl.FrameMax, 0)
	return made
}

// soundMem says whether memory is a guest's, and ok.
func soundMem(mem [][]int) bool {
	return len(mem) == impl.PageMax && !slices.ContainsFunc(mem, func(words []int) bool {
		return len(words) != impl.OffMax || slices.ContainsFunc(words, func(word int) bool { return !isWord(word) })
	})
}

// aloneOf is what FlatDo has to answer, of any memory.
func aloneOf(mem [][]int, a impl.Act) written {
	in := a.Kind == impl.ActReadIn || a.Kind == impl.ActWriteIn
	writes := a.Kind == impl.ActWrite || a.Kind == impl.ActWriteIn
	if a.Kind != impl.ActRead && !in && !writes {
		return written{copyMem(mem), 0}
	}
	at := place{a.Page, a.Off}
	if !soundMem(mem) || !slices.Contains(places(impl.PageMax), at) || writes && !isWord(a.Word) {
		return written{copyMem(mem), impl.GotBad}
	}
	if in {
		e := toldTab(mem)[at.page]
		if !e.Has {
			return written{copyMem(mem), impl.GotFault}
		}
		if writes && !e.Write {
			return written{copyMem(mem), impl.GotDenied}
		}
		at.page = e.Page
	}
	was := mem[at.page][at.off]
	if writes {
		return written{changedMem(mem, at, a.Word), was}
	}
	return written{copyMem(mem), was}
}

// hostDo and flatDo are the program's, as one answer.
func hostDo(h impl.Host, a impl.Act) came {
	made, told := impl.HostDo(h, a)
	return came{made, told}
}

func flatDo(mem [][]int, a impl.Act) written {
	got, told := impl.FlatDo(mem, a)
	return written{got, told}
}

// played is what comes of a play: the host then, and what came of each act.
type played struct {
	h    impl.Host
	told []int
}

func hostPlay(guests int, acts []impl.Act) played {
	h, told := impl.HostPlay(guests, acts)
	return played{h, told}
}

// goOn does acts one by one, as many as there are, from that host on.
func goOn(h impl.Host, acts []impl.Act) played {
	all := played{h: h}
	for _, a := range acts {
		next, told := impl.HostDo(all.h, a)
		all.h, all.told = next, append(all.told, told)
	}
	return all
}

// tidied are the acts with each write to a table followed by ActForget of that guest.
func tidied(acts []impl.Act) []impl.Act {
	var all []impl.Act
	for _, a := range acts {
		all = append(all, a)
		if a.Kind == impl.ActWrite && a.Page < impl.TabLow {
			all = append(all, actForget(a.Guest))
		}
	}
	return all
}

// act is a thrown one of so many guests, or of the host. Pages and words are few, so that pages often have the same, and what is written is read again.
func (d *dice) act(guests int) impl.Act {
	p := page{d.roll(guests), d.roll(impl.PageMax)}
	off, word := d.roll(impl.OffMax), d.roll(3)
	low := page{p.guest, impl.TabLow + p.page%(impl.PageMax-impl.TabLow)}
	switch d.roll(20) {
	case 0, 1:
		return actRead(p, off)
	case 2, 3:
		return actWrite(low, off, word)
	case 4, 5, 6:
		return actEntry(page{p.guest, d.roll(impl.PageMax)}, d.entry())
	case 7, 8, 9, 10:
		return actReadIn(p, off)
	case 11, 12, 13:
		return actWriteIn(p, off, word)
	case 14:
		return actForget(p.guest)
	case 15:
		return actOut(p)
	case 16:
		return actJoin()
	case 17:
		return actMove(d.roll(impl.FrameMax))
	case 18:
		if d.roll(3) == 0 {
			return actCarry()
		}
		return actJoin()
	}
	return d.wrongAct(guests)
}

// entry is one that a guest gives, most of them to be written.
func (d *dice) entry() impl.Entry {
	if d.roll(8) == 0 {
		return impl.Entry{}
	}
	return impl.Entry{Has: true, Page: impl.TabLow + d.roll(impl.PageMax-impl.TabLow), Write: d.roll(4) > 0}
}

// wrongAct is one that names something that there is none of.
func (d *dice) wrongAct(guests int) impl.Act {
	a := impl.Act{Kind: 1 + d.roll(9), Guest: d.roll(guests), Page: d.roll(impl.PageMax), Off: d.roll(impl.OffMax), Word: d.roll(impl.WordMax + 1)}
	switch d.roll(5) {
	case 0:
		a.Kind = []int{0, -1, impl.ActCarry + 1}[d.roll(3)]
	case 1:
		a.Guest = []int{-1, guests, guests + 1}[d.roll(3)]
	case 2:
		a.Page = []int{-1, impl.FrameMax, impl.FrameMax + 1}[d.roll(3)]
	case 3:
		a.Off = []int{-1, impl.OffMax}[d.roll(2)]
	default:
		a.Word = []int{-1, impl.WordMax + 1}[d.roll(2)]
	}
	return a
}

// thrownActs are acts of all kinds, tidy or not.
func thrownActs(seed, guests, count int) []impl.Act {
	d := &dice{uint64(seed)*9973 + 31}
	// What the dice show first hangs on the seed too plainly.
	d.roll(2)
	var acts []impl.Act
	for range count {
		acts = append(acts, d.act(guests))
	}
	return acts
}

// anyActs and tidyActs are plays of one guest, and of two, of acts of all kinds: any, and tidy ones.
func anyActs(seed int) []impl.Act {
	return thrownActs(seed, 1+seed%impl.GuestMax, impl.PlayMax)
}

func tidyActs(seed int) []impl.Act {
	return tidied(anyActs(seed))[:impl.PlayMax]
}

// manyPlays is how many plays are thrown for a promise; each seed has its number of guests.
const manyPlays = 120

func guestsOf(seed int) int {
	return 1 + seed%impl.GuestMax
}

// eachPlay hands on plays, with their number of guests.
func eachPlay(acts func(seed int) []impl.Act, look func(seed, guests int, acts []impl.Act)) {
	for seed := range manyPlays {
		look(seed, guestsOf(seed), acts(seed))
	}
}

// wantTold fails if what came is not what has to come.
func wantTold(t *testing.T, what string, acts []impl.Act, got, want []int) {
	t.Helper()
	if !slices.Equal(got, want) {
		t.Fatalf("%s: of\n%v comes\n%v, and has to come\n%v", what, acts, got, want)
	}
}

// wantSeen fails if a guest has not that memory.
func wantSeen(t *testing.T, what string, h impl.Host, guest int, want [][]int) {
	t.Helper()
	if mem := impl.HostSee(h, guest); !sameMem(mem, want) {
		t.Fatalf("%s: guest %d has\n%v, and has to have\n%v", what, guest, mem, want)
	}
}

// wantUnseen fails if, with other acts of the host, or of others, another thing comes of a guest's acts, or its memory is another one.
func wantUnseen(t *testing.T, what string, guest int, acts []impl.Act, got played, plain []impl.Act, want played) {
	t.Helper()
	wantTold(t, what, acts, toldTo(acts, got.told, guest), toldTo(plain, want.told, guest))
	wantSeen(t, what, got.h, guest, impl.HostSee(want.h, guest))
}
