package tests

import (
	"fmt"
	"slices"
	"testing"

	"loop.example/casket/impl"
)

// tryAll hands on what comes of each of the five functions: of guests, pages, places and words at the edges, and where there are none.
func tryAll(h impl.Host, try func(what string, act func(impl.Host) impl.Host)) {
	for guest := -1; guest <= len(h.Guests); guest++ {
		try(fmt.Sprint("HostForget of guest ", guest), func(h impl.Host) impl.Host { return impl.HostForget(h, guest) })
		for _, at := range []int{-1, 0, 1, impl.TabLow, impl.PageMax - 1, impl.PageMax} {
			for _, off := range []int{-1, 1, impl.OffMax} {
				for what, act := range placeActs(page{guest, at}, off, 7) {
					try(what, act)
				}
			}
		}
	}
}

// placeActs are the four that have a place.
func placeActs(p page, off, word int) map[string]func(impl.Host) impl.Host {
	at := fmt.Sprint(" of place ", off, " of page ", p)
	return map[string]func(impl.Host) impl.Host{
		"HostRead" + at:    func(h impl.Host) impl.Host { return hostRead(h, p, off).h },
		"HostWrite" + at:   func(h impl.Host) impl.Host { return hostWrite(h, p, off, word).h },
		"HostReadIn" + at:  func(h impl.Host) impl.Host { return hostReadIn(h, p, off).h },
		"HostWriteIn" + at: func(h impl.Host) impl.Host { return hostWriteIn(h, p, off, word).h },
	}
}

// memoryHosts are hosts of all kinds, ok or not, few enough to try all with each; most of them have tables and shades.
func memoryHosts() []impl.Host {
	var hosts []impl.Host
	for i, h := range stepHosts() {
		if impl.HostOk(h) {
			h = tabled(h, i)
		}
		hosts = append(hosts, h)
	}
	return append(hosts, allShades(), fullTable(3), knownHost())
}

func TestActsChangeNoArgument(t *testing.T) {
	for _, given := range memoryHosts() {
		h := roomyHost(given)
		was := wholeHost(h)
		tryAll(given, func(what string, act func(impl.Host) impl.Host) {
			scribbleHost(act(h))
			if !sameHost(wholeHost(h), was) {
				t.Fatalf("%s, or a write into its answer, changed %v", what, given)
			}
		})
	}
}

func TestAnswersOfActsAreNewMemory(t *testing.T) {
	for i, given := range memoryHosts() {
		if i%2 == 1 {
			continue
		}
		h := roomyHost(given)
		known := hostCells(h)
		tryAll(given, func(what string, act func(impl.Host) impl.Host) {
			first, second := act(h), act(h)
			wantApart(t, what, hostCells(first), known)
			wantApart(t, what+" once more", hostCells(second), hostCells(first))
		})
	}
}

func TestAnswersOfActsStay(t *testing.T) {
	for _, given := range memoryHosts() {
		tryAll(given, func(what string, act func(impl.Host) impl.Host) {
			h := roomyHost(given)
			want := act(given)
			first, second := act(h), act(h)
			if !sameHost(first, want) {
				t.Fatalf("%s: what is behind the ends of %v counts", what, given)
			}
			scribbleHost(first)
			scribbleHost(h)
			wantHost(t, what+", with its argument written over,", second, want)
		})
	}
}

func TestActsThatChangeNothingAnswerNewMemory(t *testing.T) {
	// All that is read is in, and has its shade; what is written is there already; no shade is there to be forgotten.
	h := hostReadIn(hostRead(knownHost(), page{0, 4}, 0).h, page{0, 0}, 1).h
	acts := map[string]func(impl.Host) impl.Host{
		"HostRead":    func(h impl.Host) impl.Host { return hostRead(h, page{0, 4}, 1).h },
		"HostWrite":   func(h impl.Host) impl.Host { return hostWrite(h, page{0, 4}, 1, 22).h },
		"HostReadIn":  func(h impl.Host) impl.Host { return hostReadIn(h, page{0, 0}, 1).h },
		"HostWriteIn": func(h impl.Host) impl.Host { return hostWriteIn(h, page{0, 0}, 1, 2).h },
		"HostForget":  func(h impl.Host) impl.Host { return impl.HostForget(h, 1) },
	}
	for what, act := range acts {
		given := roomyHost(h)
		got := act(given)
		wantHost(t, what, got, h)
		wantApart(t, what, hostCells(got), hostCells(given))
	}
}

func TestActsOfListsThatShareMemory(t *testing.T) {
	// All frames, and all on disk, are one page, and both guests have the same lists; each page leads to page 2 or 3, and what is written into one of the lists would show in all others.
	words := []int{6, 8, 6, 8}
	g := impl.Guest{Maps: make([]impl.Map, impl.PageMax), Disk: slices.Repeat([][]int{words}, impl.PageMax), Shades: make([]impl.Shade, impl.PageMax)}
	alike := impl.Host{Frames: slices.Repeat([][]int{words}, impl.FrameMax), Guests: []impl.Guest{g, g}}
	tryAll(alike, func(what string, act func(impl.Host) impl.Host) {
		got := act(alike)
		wantHost(t, what+" of lists that share memory", got, act(copyHost(alike)))
		wantApart(t, what+" of lists that share memory", hostCells(got), hostCells(alike))
		if !slices.Equal(words, []int{6, 8, 6, 8}) {
			t.Fatalf("%s wrote into its argument", what)
		}
	})
	got := hostWriteIn(alike, page{1, 0}, 3, 0)
	wantChanged(t, "HostWriteIn of lists that share memory", got.h, alike, 1, changedMem(g.Disk, place{2, 3}, 0))
}

// badHosts are ok hosts at which what is wrong is asked for.
func badHosts() []impl.Host {
	one, two := tabled(oneOut(), 2), tabled(twoOut(), 3)
	return []impl.Host{one, two, tabled(fullHost(), 4), ledHost(), allShades(), fullTable(1), tabled(oneFrame(5), 5)}
}

// wantActsBad fails if any of the four is not bad of that page, place and word.
func wantActsBad(t *testing.T, what string, h impl.Host, p page, off, word int) {
	t.Helper()
	what = fmt.Sprint(what, ": page ", p, ", place ", off, ", word ", word)
	wantBad(t, "HostRead: "+what, hostRead(h, p, off))
	wantBad(t, "HostReadIn: "+what, hostReadIn(h, p, off))
	wantWritesBadAt(t, what, h, p, off, word)
}

func wantWritesBadAt(t *testing.T, what string, h impl.Host, p page, off, word int) {
	t.Helper()
	wantBad(t, "HostWrite: "+what, hostWrite(h, p, off, word))
	wantBad(t, "HostWriteIn: "+what, hostWriteIn(h, p, off, word))
}

func TestActsOfWhatThereIsNoneOf(t *testing.T) {
	for _, h := range badHosts() {
		for guest := range h.Guests {
			for _, at := range noPlaces(impl.PageMax) {
				wantActsBad(t, "no place", h, page{guest, at.page}, at.off, 1)
			}
			for _, at := range append(farPages(), -1, impl.PageMax) {
				wantActsBad(t, "no page", h, page{guest, at}, 0, 1)
			}
			for _, word := range noWords() {
				for _, at := range []int{0, impl.TabLow, impl.PageMax - 1} {
					wantWritesBadAt(t, fmt.Sprint("no word ", word), h, page{guest, at}, 1, word)
				}
			}
		}
		for _, guest := range noGuestNumbers(len(h.Guests)) {
			for _, at := range []int{-1, 0, impl.PageMax - 1, impl.PageMax} {
				wantActsBad(t, "no guest", h, page{guest, at}, 0, 1)
			}
			wantHost(t, "HostForget of no guest", impl.HostForget(h, guest), impl.Host{})
		}
	}
}

func TestActsAtTheEdges(t *testing.T) {
	for _, h := range badHosts() {
		for guest := -1; guest <= len(h.Guests); guest++ {
			for _, at := range edgePages() {
				for _, off := range edgeOffs() {
					for _, word := range edgeWords() {
						wantEdge(t, h, page{guest, at}, off, word)
					}
				}
			}
		}
	}
}

// wantEdge asks for an answer just if all is there that is asked for.
func wantEdge(t *testing.T, h impl.Host, p page, off, word int) {
	t.Helper()
	place := p.guest >= 0 && p.guest < len(h.Guests) && p.page >= 0 && p.page < impl.PageMax && off >= 0 && off < impl.OffMax
	what := fmt.Sprint("page ", p, ", place ", off, ", word ", word)
	if !place {
		wantActsBad(t, "an edge", h, p, off, word)
		return
	}
	wantCame(t, "HostRead: "+what, hostRead(h, p, off), readOf(h, p, off))
	wantCame(t, "HostReadIn: "+what, hostReadIn(h, p, off), readInOf(h, p, off))
	if !isWord(word) {
		wantWritesBadAt(t, what, h, p, off, word)
		return
	}
	wantCame(t, "HostWrite: "+what, hostWrite(h, p, off, word), writeOf(h, p, off, word))
	wantCame(t, "HostWriteIn: "+what, hostWriteIn(h, p, off, word), writeInOf(h, p, off, word))
}

func TestWhatIsBadIsToldAheadOfAFaultAndWhatIsDenied(t *testing.T) {
	// Pages 1 and 2 of the known host are denied, and lead nowhere, and still what is bad is bad.
	for _, at := range []int{1, 2} {
		for _, word := range noWords() {
			wantWritesBadAt(t, "no word", knownHost(), page{0, at}, 0, word)
		}
		for _, off := range []int{-1, impl.OffMax} {
			wantActsBad(t, "no place", knownHost(), page{0, at}, off, 0)
		}
	}
	// A shade does not help either.
	h := hostReadIn(knownHost(), page{0, 0}, 0).h
	wantActsBad(t, "no place, with a shade", h, page{0, 0}, impl.OffMax, 0)
	wantWritesBadAt(t, "no word, with a shade", h, page{0, 0}, 0, impl.WordMax+1)
}

func TestActsOfHostsThatAreNotOk(t *testing.T) {
	for _, w := range wrongHosts() {
		for guest := -1; guest <= impl.GuestMax; guest++ {
			for _, at := range []int{-1, 0, 2, impl.PageMax - 1, impl.PageMax} {
				wantActsBad(t, w.what, w.h, page{guest, at}, 2, 3)
			}
			wantHost(t, "HostForget: "+w.what, impl.HostForget(w.h, guest), impl.Host{})
		}
	}
}
