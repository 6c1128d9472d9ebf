package tests

import (
	"testing"

	"loop.example/casket/impl"
)

func TestReadingInAndWritingInAsTheDocumentSays(t *testing.T) {
	for _, h := range accHosts() {
		for _, p := range hostPages(h) {
			for off := range impl.OffMax {
				wantCame(t, "HostReadIn", hostReadIn(h, p, off), readInOf(h, p, off))
				for _, word := range []int{0, impl.WordMax} {
					wantCame(t, "HostWriteIn", hostWriteIn(h, p, off, word), writeInOf(h, p, off, word))
				}
			}
		}
	}
}

func TestReadingInAndWritingInOfEachKind(t *testing.T) {
	tells := map[int]int{}
	for i, r := range append(reachHosts(), shadedReaches()...) {
		if !impl.HostOk(r.h) {
			t.Fatalf("%s: the host is not ok: %v", r.what, r.h)
		}
		off := i % impl.OffMax
		wantCame(t, "HostReadIn: "+r.what, hostReadIn(r.h, r.from, off), readInOf(r.h, r.from, off))
		got := hostWriteIn(r.h, r.from, off, i%(impl.WordMax+1))
		wantCame(t, "HostWriteIn: "+r.what, got, writeInOf(r.h, r.from, off, i%(impl.WordMax+1)))
		tells[min(got.told, 0)]++
	}
	if tells[0] < 500 || tells[impl.GotFault] < 500 || tells[impl.GotDenied] < 500 {
		t.Errorf("of what HostWriteIn told there are just %v", tells)
	}
}

func TestP60HostReadIn(t *testing.T) {
	words, faults := 0, 0
	for _, given := range accHosts() {
		for _, p := range hostPages(given) {
			h := impl.HostForget(given, p.guest)
			for off := range impl.OffMax {
				got := hostReadIn(h, p, off)
				want := impl.FlatReadIn(seenMem(h, p.guest), p.page, off)
				if got.told != want {
					t.Fatalf("HostReadIn of place %d of %v of\n%v is %d, and has to be %d", off, p, h, got.told, want)
				}
				wantMemory(t, "HostReadIn", got.h, h)
				if isWord(want) {
					words++
				} else {
					faults++
				}
			}
		}
	}
	if words < 1000 || faults < 1000 {
		t.Errorf("%d words, %d faults", words, faults)
	}
}

func TestP60HostReadInOfEachKind(t *testing.T) {
	for i, r := range append(reachHosts(), shadedReaches()...) {
		off := i % impl.OffMax
		mem := seenMem(r.h, r.from.guest)
		want := impl.GotFault
		if r.e.Has {
			want = mem[r.e.Page][off]
		}
		got := hostReadIn(impl.HostForget(r.h, r.from.guest), r.from, off)
		if got.told != want {
			t.Fatalf("%s: HostReadIn is %d, and has to be %d", r.what, got.told, want)
		}
		wantMemory(t, "HostReadIn: "+r.what, got.h, r.h)
	}
}

func TestP61HostWriteIn(t *testing.T) {
	tells := map[int]int{}
	for i, given := range accHosts() {
		for _, p := range hostPages(given) {
			h := impl.HostForget(given, p.guest)
			mem := seenMem(h, p.guest)
			for _, word := range []int{0, impl.WordMax, 6} {
				off := someOff(i+word, p)
				got := hostWriteIn(h, p, off, word)
				want := writeIn(mem, place{p.page, off}, word)
				if got.told != want.told {
					t.Fatalf("HostWriteIn of %d to place %d of %v of\n%v is %d, and has to be %d", word, off, p, h, got.told, want.told)
				}
				wantChanged(t, "HostWriteIn", got.h, h, p.guest, want.mem)
				tells[min(got.told, 0)]++
			}
		}
	}
	if tells[0] < 1000 || tells[impl.GotFault] < 1000 || tells[impl.GotDenied] < 1000 {
		t.Errorf("of what HostWriteIn told there are just %v", tells)
	}
}

func TestP61HostWriteInOfEachKind(t *testing.T) {
	for i, r := range append(reachHosts(), shadedReaches()...) {
		off := i % impl.OffMax
		mem := seenMem(r.h, r.from.guest)
		word := otherWord(mem[r.e.Page][off])
		want := came{told: impl.GotFault}
		then := mem
		switch {
		case r.e.Has && r.e.Write:
			want.told = mem[r.e.Page][off]
			then = changedMem(mem, place{r.e.Page, off}, word)
		case r.e.Has:
			want.told = impl.GotDenied
		}
		got := hostWriteIn(impl.HostForget(r.h, r.from.guest), r.from, off, word)
		if got.told != want.told {
			t.Fatalf("%s: HostWriteIn is %d, and has to be %d", r.what, got.told, want.told)
		}
		wantChanged(t, "HostWriteIn: "+r.what, got.h, r.h, r.from.guest, then)
	}
}

func TestP62HostReadInOnceMore(t *testing.T) {
	eachTry(func(what string, h impl.Host, p page, off int) {
		if got := hostReadIn(h, p, off); isWord(got.told) {
			wantCame(t, "HostReadIn once more: "+what, hostReadIn(got.h, p, off), got)
		}
	})
}

func TestP63WhatIsReadInIsTheGuestsOwn(t *testing.T) {
	eachTry(func(what string, h impl.Host, p page, off int) {
		got := hostReadIn(h, p, off)
		if !isWord(got.told) {
			return
		}
		s := shadeOf(got.h, p)
		if !s.Has || s.Page < impl.TabLow || seenMem(h, p.guest)[s.Page][off] != got.told {
			t.Fatalf("%s: HostReadIn of place %d of %v of\n%v is %d, with the shade %v", what, off, p, h, got.told, s)
		}
		wantMemory(t, "HostReadIn", got.h, h)
	})
}

func TestP64WhatIsWrittenInIsTheGuestsOwn(t *testing.T) {
	wrote := 0
	eachTry(func(what string, h impl.Host, p page, off int) {
		for _, word := range []int{0, impl.WordMax} {
			got := hostWriteIn(h, p, off, word)
			if !isWord(got.told) {
				wantMemory(t, "HostWriteIn that is wrong", got.h, h)
				continue
			}
			s := shadeOf(got.h, p)
			mem := seenMem(h, p.guest)
			if !s.Has || !s.Write || s.Page < impl.TabLow || mem[s.Page][off] != got.told {
				t.Fatalf("%s: HostWriteIn to place %d of %v of\n%v is %d, with the shade %v", what, off, p, h, got.told, s)
			}
			wantChanged(t, "HostWriteIn: "+what, got.h, h, p.guest, changedMem(mem, place{s.Page, off}, word))
			wrote++
		}
	})
	if wrote < 2000 {
		t.Errorf("just %d were written", wrote)
	}
}

// tableTells is whether the table leads from a page of the guest's own guest to where its shade does.
func tableTells(h impl.Host, p page) bool {
	e, s := toldTab(seenMem(h, p.guest))[p.page], shadeOf(h, p)
	return e.Has && s.Has && e.Page == s.Page
}

func TestP69WhatTheGuestWritesIsReadIn(t *testing.T) {
	byOld := 0
	for i, h := range accHosts() {
		for _, p := range hostPages(h) {
			off := someOff(i, p)
			got := hostReadIn(h, p, off)
			if !isWord(got.told) {
				continue
			}
			s := shadeOf(got.h, p)
			if !tableTells(got.h, p) {
				// See TestAShadeThatLedElsewhereIsForgottenWithASharedPage.
				if len(inFrame(got.h, s.Frame)) > 1 {
					continue
				}
				byOld++
			}
			word := otherWord(got.told)
			wrote := hostWrite(got.h, page{p.guest, s.Page}, off, word)
			if again := hostReadIn(wrote.h, p, off); again.told != word || wrote.told != got.told {
				t.Fatalf("behind HostWrite of %d to place %d of %v of\n%v HostReadIn is %d", word, off, s, got.h, again.told)
			}
		}
	}
	if byOld < 50 {
		t.Errorf("just %d by a shade that led elsewhere than the table", byOld)
	}
}

func TestP69OfEachKind(t *testing.T) {
	for i, r := range reachHosts() {
		off := i % impl.OffMax
		got := hostReadIn(r.h, r.from, off)
		if !isWord(got.told) {
			continue
		}
		word := otherWord(got.told)
		wrote := hostWrite(got.h, page{r.from.guest, r.e.Page}, off, word)
		again := hostReadIn(wrote.h, r.from, off)
		if again.told != word || wrote.told != got.told {
			t.Fatalf("%s: behind HostWrite of %d HostReadIn is %d", r.what, word, again.told)
		}
		wantChanged(t, "HostReadIn, HostWrite, HostReadIn: "+r.what, again.h, r.h, r.from.guest, changedMem(seenMem(r.h, r.from.guest), place{r.e.Page, off}, word))
	}
}

func TestAShadeThatLedElsewhereIsForgottenWithASharedPage(t *testing.T) {
	// HostWrite to a page that is shared takes it out, so its shades are forgotten, and it is the table that leads on then, though the shade did so ahead.
	h := bring(bring(twoOut(), page{0, 3}, 2, false), page{1, 3}, 2, false)
	h = entered(h, page{0, 1}, impl.Entry{Has: true, Page: 4})
	h = shaded(h, page{0, 1}, impl.Shade{Has: true, Page: 3, Frame: 2})
	if got := hostReadIn(h, page{0, 1}, 0); got.told != h.Frames[2][0] {
		t.Fatalf("by the shade %d is read", got.told)
	}
	wrote := hostWrite(h, page{0, 3}, 0, 50)
	if got := hostReadIn(wrote.h, page{0, 1}, 0); got.told != seenMem(h, 0)[4][0] || shadeOf(got.h, page{0, 1}).Page != 4 {
		t.Errorf("behind HostWrite to the shared page %d is read in", got.told)
	}
}

func TestP70WhatIsWrittenInIsRead(t *testing.T) {
	eachTry(func(what string, h impl.Host, p page, off int) {
		for _, word := range []int{0, impl.WordMax} {
			wrote := hostWriteIn(h, p, off, word)
			if !isWord(wrote.told) {
				continue
			}
			s := shadeOf(wrote.h, p)
			if got := hostRead(wrote.h, page{p.guest, s.Page}, off); got.told != word {
				t.Fatalf("%s: behind HostWriteIn of %d HostRead is %d", what, word, got.told)
			}
			wantCame(t, "HostReadIn behind HostWriteIn: "+what, hostReadIn(wrote.h, p, off), came{wrote.h, word})
			read := hostRead(wrote.h, page{p.guest, s.Page}, off)
			wantCame(t, "HostReadIn behind both: "+what, hostReadIn(read.h, p, off), came{wrote.h, word})
		}
	})
}

// hostSteps are all that the host may do with pages, of pages and frames that there are.
func hostSteps(h impl.Host) []func(impl.Host) impl.Host {
	steps := []func(impl.Host) impl.Host{func(h impl.Host) impl.Host {
		made, _ := impl.PageJoin(h)
		return made
	}}
	for _, p := range hostPages(h) {
		steps = append(steps, func(h impl.Host) impl.Host { return impl.PageOut(h, p.guest, p.page) })
	}
	for frame := range impl.FrameMax {
		steps = append(steps, func(h impl.Host) impl.Host {
			made, _ := impl.PageMove(h, frame)
			return made
		})
	}
	return steps
}

func TestP71WhatIsReadInStaysWhateverTheHostDoes(t *testing.T) {
	for i, given := range fewAccHosts() {
		for _, p := range hostPages(given) {
			h := impl.HostForget(given, p.guest)
			first := hostReadIn(h, p, someOff(i, p))
			for n, step := range hostSteps(h) {
				got := hostReadIn(step(first.h), p, someOff(i, p))
				if got.told != first.told {
					t.Fatalf("behind step %d of\n%v HostReadIn of %v is %d, and was %d", n, first.h, p, got.told, first.told)
				}
				wantMemory(t, "HostReadIn behind a step", got.h, h)
			}
		}
	}
}

func TestP71WhatIsReadInOfAlikePages(t *testing.T) {
	// All frames have the same, so that all joins can be, and what is joined is what is read.
	h := alikeHost(bothAtHand(4), 0, 1, 2, 3, 4, 5, 6, 7)
	for _, p := range hostPages(h) {
		for _, to := range []int{2, 3, 4, 5} {
			at := entered(impl.HostForget(h, p.guest), p, impl.Entry{Has: true, Page: to, Write: true})
			first := hostReadIn(at, p, 1)
			joined, _ := joinedAll(first.h)
			if got := hostReadIn(joined, p, 1); got.told != first.told {
				t.Errorf("behind joins %d is read in, and was %d", got.told, first.told)
			}
			for frame := range impl.FrameMax {
				moved, _ := impl.PageMove(joined, frame)
				if got := hostReadIn(moved, p, 1); got.told != first.told {
					t.Errorf("behind joins, and a move of frame %d, %d is read in, and was %d", frame, got.told, first.told)
				}
			}
		}
	}
}

func TestP72WhatIsDeniedStaysDenied(t *testing.T) {
	denied := 0
	eachTry(func(what string, h impl.Host, p page, off int) {
		h = impl.HostForget(h, p.guest)
		first := hostWriteIn(h, p, off, 33)
		if first.told != impl.GotDenied {
			return
		}
		denied++
		again := hostWriteIn(first.h, p, off, 33)
		read := hostReadIn(again.h, p, off)
		last := hostWriteIn(read.h, p, off, 33)
		if again.told != impl.GotDenied || !isWord(read.told) || last.told != impl.GotDenied {
			t.Fatalf("%s: denied, then %d, %d, %d", what, again.told, read.told, last.told)
		}
		for _, c := range []came{first, again, read, last} {
			wantMemory(t, "what is denied: "+what, c.h, h)
		}
	})
	if denied < 500 {
		t.Errorf("just %d were denied", denied)
	}
}

func TestP73WhatLeadsNowhereStaysSo(t *testing.T) {
	faults := 0
	eachTry(func(what string, h impl.Host, p page, off int) {
		first := hostReadIn(h, p, off)
		if first.told != impl.GotFault {
			return
		}
		faults++
		wantCame(t, "HostReadIn once more: "+what, hostReadIn(first.h, p, off), first)
		wantCame(t, "HostWriteIn: "+what, hostWriteIn(first.h, p, off, 9), first)
		if shadeOf(first.h, p) != (impl.Shade{}) {
			t.Fatalf("%s: GotFault leaves the shade %v", what, shadeOf(first.h, p))
		}
	})
	if faults < 500 {
		t.Errorf("just %d led nowhere", faults)
	}
}

func TestP76TheShadeThatHostReadInMakes(t *testing.T) {
	rights := map[[2]bool]int{}
	eachTry(func(what string, h impl.Host, p page, off int) {
		h = impl.HostForget(h, p.guest)
		got := hostReadIn(h, p, off)
		if !isWord(got.told) {
			return
		}
		e := impl.MemTab(seenMem(h, p.guest))[p.page]
		m := mapOf(got.h, page{p.guest, e.Page})
		want := impl.Shade{Has: true, Page: e.Page, Frame: m.Frame, Write: e.Write && m.Write}
		if s := shadeOf(got.h, p); !m.In || s != want || shadesOf(got.h, p.guest) != 1 {
			t.Fatalf("%s: behind HostReadIn of %v of\n%v there is the shade %v, and it has to be %v", what, p, h, s, want)
		}
		rights[[2]bool{e.Write, m.Write}]++
	})
	for _, both := range [][2]bool{{false, false}, {false, true}, {true, false}, {true, true}} {
		if rights[both] < 100 {
			t.Errorf("entry and map might be written as %v just %d times", both, rights[both])
		}
	}
}
