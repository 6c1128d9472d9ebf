package tests

import (
	"fmt"
	"testing"

	"loop.example/casket/impl"
)

// came is what comes of an act of a guest, or of its own guest: the host behind it, and what is told.
type came struct {
	h    impl.Host
	told int
}

// hostRead, hostWrite, hostReadIn and hostWriteIn are the program's, as one answer.
func hostRead(h impl.Host, p page, off int) came {
	made, told := impl.HostRead(h, p.guest, p.page, off)
	return came{made, told}
}

func hostWrite(h impl.Host, p page, off, word int) came {
	made, told := impl.HostWrite(h, p.guest, p.page, off, word)
	return came{made, told}
}

func hostReadIn(h impl.Host, p page, off int) came {
	made, told := impl.HostReadIn(h, p.guest, p.page, off)
	return came{made, told}
}

func hostWriteIn(h impl.Host, p page, off, word int) came {
	made, told := impl.HostWriteIn(h, p.guest, p.page, off, word)
	return came{made, told}
}

// readOf, writeOf, readInOf, writeInOf and forgotOf are what the program has to answer, of an ok host, and a guest, page, place and word that there are.
func readOf(h impl.Host, p page, off int) came {
	made := pagedIn(h, p)
	return came{made, made.Frames[mapOf(made, p).Frame][off]}
}

func writeOf(h impl.Host, p page, off, word int) came {
	made := pageOwned(h, p)
	return putIn(made, mapOf(made, p).Frame, off, word)
}

// putIn writes into a frame of a host that is no argument of a call.
func putIn(h impl.Host, frame, off, word int) came {
	was := h.Frames[frame][off]
	h.Frames[frame][off] = word
	return came{h, was}
}

// walked is the host behind a walk, and where it leads.
func walked(h impl.Host, p page) (impl.Host, impl.Entry) {
	at := tabPlaces()[p.page]
	got := readOf(h, page{p.guest, at.page}, at.off)
	return got.h, givenWords[got.told]
}

func readInOf(h impl.Host, p page, off int) came {
	if s := shadeOf(h, p); s.Has {
		return came{copyHost(h), h.Frames[s.Frame][off]}
	}
	made, e := walked(h, p)
	if !e.Has {
		return came{made, impl.GotFault}
	}
	to := page{p.guest, e.Page}
	made = pagedIn(made, to)
	m := mapOf(made, to)
	made = shaded(made, p, impl.Shade{Has: true, Page: e.Page, Frame: m.Frame, Write: e.Write && m.Write})
	return came{made, made.Frames[m.Frame][off]}
}

func writeInOf(h impl.Host, p page, off, word int) came {
	if s := shadeOf(h, p); s.Has && s.Write {
		return putIn(copyHost(h), s.Frame, off, word)
	}
	made, e := walked(shaded(h, p, impl.Shade{}), p)
	switch {
	case !e.Has:
		return came{made, impl.GotFault}
	case !e.Write:
		return came{made, impl.GotDenied}
	}
	to := page{p.guest, e.Page}
	made = pageOwned(made, to)
	frame := mapOf(made, to).Frame
	made = shaded(made, p, impl.Shade{Has: true, Page: e.Page, Frame: frame, Write: true})
	return putIn(made, frame, off, word)
}

func forgotOf(h impl.Host, guest int) impl.Host {
	made := copyHost(h)
	made.Guests[guest].Shades = make([]impl.Shade, impl.PageMax)
	return made
}

// shadeOf is the shade of a page of the guest's own guest.
func shadeOf(h impl.Host, p page) impl.Shade {
	return h.Guests[p.guest].Shades[p.page]
}

// poked is the host with that word at a place of a page, wherever that is; who shares its frame has it, too.
func poked(h impl.Host, p page, off, word int) impl.Host {
	made := copyHost(h)
	if m := mapOf(h, p); m.In {
		made.Frames[m.Frame][off] = word
	} else {
		made.Guests[p.guest].Disk[p.page][off] = word
	}
	return made
}

// entered is the host whose guest's table tells that entry of that page.
func entered(h impl.Host, p page, e impl.Entry) impl.Host {
	at := tabPlaces()[p.page]
	return poked(h, page{p.guest, at.page}, at.off, impl.EntryNum(e))
}

// tabled is the host whose guests have tables that lead on from most pages, thrown by dice; what shades it has may lead elsewhere.
func tabled(h impl.Host, seed int) impl.Host {
	d := &dice{uint64(seed)*4099 + 11}
	for _, p := range hostPages(h) {
		if d.roll(6) > 0 {
			e := impl.Entry{Has: true, Page: impl.TabLow + d.roll(impl.PageMax-impl.TabLow), Write: d.roll(3) > 0}
			h = entered(h, p, e)
		}
	}
	return h
}

// accHosts are ok hosts with each number of free frames, with tables of all kinds, and with shades that lead where the tables do, elsewhere, or are not there.
func accHosts() []impl.Host {
	var hosts []impl.Host
	for i, h := range pageHosts() {
		h = tabled(h, i)
		if i%3 == 0 {
			h = trueShades(h, i)
		}
		hosts = append(hosts, h)
	}
	return append(hosts, tabled(ledHost(), 3), tabled(bothAtHand(0), 4), tabled(bothAtHand(impl.FrameMax-1), 5), tabled(oneFrame(2), 6))
}

// fewAccHosts are some of them, for what is asked many times of each.
func fewAccHosts() []impl.Host {
	var hosts []impl.Host
	for i, h := range accHosts() {
		if i%5 == 0 {
			hosts = append(hosts, h)
		}
	}
	return hosts
}

// trueShades is the host whose shades are none, or where the tables lead.
func trueShades(h impl.Host, seed int) impl.Host {
	d := &dice{uint64(seed) + 5}
	for _, p := range hostPages(h) {
		e := toldTab(seenMem(h, p.guest))[p.page]
		h = shaded(h, p, impl.Shade{})
		if m := mapOf(h, page{p.guest, e.Page}); e.Has && m.In && d.coin() {
			h = shaded(h, p, impl.Shade{Has: true, Page: e.Page, Frame: m.Frame, Write: e.Write && m.Write})
		}
	}
	return h
}

// someOff is a place of a page, another one of each page and host, where each of them would be too many.
func someOff(i int, p page) int {
	return (i + p.page + p.guest) % impl.OffMax
}

// otherWord is a word that is not that one.
func otherWord(word int) int {
	return (word + 23) % (impl.WordMax + 1)
}

// wantCame fails if an answer is not what it has to be.
func wantCame(t *testing.T, what string, got, want came) {
	t.Helper()
	if got.told != want.told {
		t.Fatalf("%s tells %d, and has to tell %d; the host is\n%v", what, got.told, want.told, got.h)
	}
	wantHost(t, what, got.h, want.h)
}

// wantBad fails if an answer is not nothing, and GotBad.
func wantBad(t *testing.T, what string, got came) {
	t.Helper()
	wantCame(t, what, got, came{told: impl.GotBad})
}

// wantChanged fails if a host is not ok, that guest has not that memory, or any other one not what it had.
func wantChanged(t *testing.T, what string, got, was impl.Host, guest int, mem [][]int) {
	t.Helper()
	if !impl.HostOk(got) || len(got.Guests) != len(was.Guests) {
		t.Fatalf("%s of\n%v is\n%v, which is not ok", what, was, got)
	}
	for other := range was.Guests {
		want := seenMem(was, other)
		if other == guest {
			want = mem
		}
		if seen := impl.HostSee(got, other); !sameMem(seen, want) {
			t.Fatalf("%s of guest %d of\n%v is\n%v: guest %d has %v", what, guest, was, got, other, seen)
		}
	}
}

// state is where a page is, and with whom.
type state int

const (
	isOut     state = iota
	isOwn           // alone in its frame, and may be written
	isAlone         // alone, and may not be
	withMate        // with another page of the same guest
	withOther       // with a page of the other guest
	withTable       // with the page of the table that leads to it
)

// inState is the host of two guests with a page in that frame, in that state; its mate is the page that shares the frame, if it is one of the guest's own.
func inState(h impl.Host, p page, s state, frame int, mate page) impl.Host {
	switch s {
	case isOwn:
		return bring(h, p, frame, true)
	case isAlone:
		return bring(h, p, frame, false)
	case withMate:
		return bring(bring(h, p, frame, false), mate, frame, false)
	case withOther:
		return bring(bring(h, p, frame, false), page{1 - p.guest, p.page}, frame, false)
	}
	return h
}

// filled is the host with no frame free: pages that are out come into those that are, beside these.
func filled(h impl.Host, but ...page) impl.Host {
	stay := map[page]bool{}
	for _, p := range but {
		stay[p] = true
	}
	for _, p := range hostPages(h) {
		free := freeFrames(h)
		if len(free) > 0 && !mapOf(h, p).In && !stay[p] {
			h = bring(h, p, free[0], true)
		}
	}
	return h
}

// reach is a host, and a page of a guest's own guest that is to be read or written: what its table tells of it, where the page of the table is, and the one to which it leads, and which shade there is.
type reach struct {
	what string
	h    impl.Host
	from page
	e    impl.Entry
}

// reachHosts are hosts of all these kinds, without a shade of the page.
func reachHosts() []reach {
	var all []reach
	for _, p := range hostPages(twoOut()) {
		to := impl.TabLow + (p.page+p.guest)%(impl.PageMax-impl.TabLow)
		for _, e := range []impl.Entry{{}, {Has: true, Page: to}, {Has: true, Page: to, Write: true}} {
			for table := isOut; table <= withOther; table++ {
				for led := isOut; led <= withTable; led++ {
					for _, full := range []bool{false, true} {
						h := reachHost(p, to, table, led, full)
						h.Hand = len(all) % impl.FrameMax
						what := fmt.Sprint("page ", p, ", the table ", table, ", what it leads to ", led, ", full ", full, ", hand ", h.Hand, ", entry ", e)
						all = append(all, reach{what, entered(h, p, e), p, e})
					}
				}
			}
		}
	}
	return all
}

// reachHost is one of them, without an entry. The frames are not the first ones, so that a page does not stay where it was by chance.
func reachHost(p page, to int, table, led state, full bool) impl.Host {
	at := page{p.guest, tabPlaces()[p.page].page}
	next := impl.TabLow + (to-impl.TabLow+1)%(impl.PageMax-impl.TabLow)
	h := inState(twoOut(), at, table, 3, page{p.guest, 1 - at.page})
	h = inState(h, page{p.guest, to}, led, 5, page{p.guest, next})
	if m := mapOf(h, at); led == withTable && m.In {
		h.Guests[at.guest].Maps[at.page].Write = false
		h = bring(h, page{p.guest, to}, m.Frame, false)
	}
	if full {
		h = filled(h, at, page{p.guest, to})
	}
	return h
}

// shadedReaches are those with a shade of the page that may be, to the page to which the entry leads, or to another one.
func shadedReaches() []reach {
	var all []reach
	for _, r := range reachHosts() {
		for to := impl.TabLow; to < impl.PageMax; to++ {
			m := mapOf(r.h, page{r.from.guest, to})
			if !m.In {
				continue
			}
			s := impl.Shade{Has: true, Page: to, Frame: m.Frame}
			all = append(all, reach{fmt.Sprint(r.what, ", a shade to ", to), shaded(r.h, r.from, s), r.from, r.e})
			if s.Write = m.Write; s.Write {
				all = append(all, reach{fmt.Sprint(r.what, ", a shade to write to ", to), shaded(r.h, r.from, s), r.from, r.e})
			}
		}
	}
	return all
}

// eachTry hands on hosts of all kinds, each with a place of a page of a guest's own guest.
func eachTry(try func(what string, h impl.Host, p page, off int)) {
	for i, h := range accHosts() {
		for _, p := range hostPages(h) {
			try("thrown", h, p, someOff(i, p))
		}
	}
	for i, r := range append(reachHosts(), shadedReaches()...) {
		try(r.what, r.h, r.from, i%impl.OffMax)
	}
}
