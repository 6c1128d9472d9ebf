package tests

import (
	"slices"
	"testing"

	"loop.example/casket/impl"
)

// ledHost has pages of both guests in frames of their own, that may be written, and a shade to each of those of TabLow on: each one of the page behind it, so that whose shade it is and where it leads are two things.
func ledHost() impl.Host {
	h := twoOut()
	for frame, p := range []page{{0, 2}, {0, 3}, {0, 4}, {1, 2}, {1, 3}, {1, 4}} {
		h = bring(h, p, frame, true)
		h = shaded(h, page{p.guest, p.page + 1}, impl.Shade{Has: true, Page: p.page, Frame: frame, Write: true})
	}
	// Two shades may lead to one page, and one of them may be one that may not be written.
	h = shaded(h, page{0, 0}, impl.Shade{Has: true, Page: 3, Frame: 1})
	return shaded(h, page{1, 0}, impl.Shade{Has: true, Page: 3, Frame: 4})
}

// bothAtHand has no free frame, and in the frame at the hand are pages of both guests, with shades that lead to them; page 5 of both guests is out.
func bothAtHand(hand int) impl.Host {
	h := twoOut()
	h.Hand = hand
	for i := range impl.FrameMax {
		p := page{i / 4, i % 4}
		h = bring(h, p, (hand+i)%impl.FrameMax, false)
	}
	for _, p := range []page{{0, 4}, {1, 4}} {
		h = bring(h, p, hand, false)
		h = shaded(h, page{p.guest, 1}, impl.Shade{Has: true, Page: 4, Frame: hand})
		h = shaded(h, page{p.guest, 4}, impl.Shade{Has: true, Page: 3, Frame: mapOf(h, page{p.guest, 3}).Frame})
	}
	return h
}

func TestPagesAsTheDocumentSays(t *testing.T) {
	for _, h := range append(pageHosts(), ledHost(), bothAtHand(0), bothAtHand(impl.FrameMax-1)) {
		for _, p := range hostPages(h) {
			wantHost(t, "PageIn", impl.PageIn(h, p.guest, p.page), pagedIn(h, p))
			wantHost(t, "PageOut", impl.PageOut(h, p.guest, p.page), pagedOut(h, p))
			wantHost(t, "PageOwn", impl.PageOwn(h, p.guest, p.page), pageOwned(h, p))
		}
	}
}

func TestP41PageIn(t *testing.T) {
	for _, h := range pageHosts() {
		for _, p := range hostPages(h) {
			got := impl.PageIn(h, p.guest, p.page)
			wantMemory(t, "PageIn", got, h)
			if !mapOf(got, p).In {
				t.Fatalf("PageIn of %v of %v: %v", p, h, got)
			}
			if mapOf(h, p).In {
				wantHost(t, "PageIn of one that is in", got, h)
			}
			wantHost(t, "PageIn once more", impl.PageIn(got, p.guest, p.page), got)
		}
	}
}

func TestP41OneThatMayNotBeWrittenStaysSo(t *testing.T) {
	for _, p := range hostPages(twoOut()) {
		h := bring(twoOut(), p, 5, false)
		wantHost(t, "PageIn of one that is in and may not be written", impl.PageIn(h, p.guest, p.page), h)
	}
}

func TestP42PageOut(t *testing.T) {
	for _, h := range pageHosts() {
		for _, p := range hostPages(h) {
			got := impl.PageOut(h, p.guest, p.page)
			wantMemory(t, "PageOut", got, h)
			if mapOf(got, p) != (impl.Map{}) || len(shadesTo(got, p)) != 0 {
				t.Fatalf("PageOut of %v of %v: %v", p, h, got)
			}
			if !mapOf(h, p).In {
				wantHost(t, "PageOut of one that is out", got, h)
			}
			if got.Hand != h.Hand {
				t.Fatalf("PageOut of %v of %v: Hand is %d", p, h, got.Hand)
			}
		}
	}
}

func TestP42ShadesThatPageOutForgets(t *testing.T) {
	for _, h := range append(pageHosts(), ledHost(), fullHost()) {
		for _, p := range hostPages(h) {
			wantShades(t, "PageOut", impl.PageOut(h, p.guest, p.page), h, p)
		}
	}
	// Both that lead to page 3 of guest 0 go; the one of its page 3, and those that lead to page 3 of guest 1, stay.
	got := impl.PageOut(ledHost(), 0, 3)
	if !slices.Equal(got.Guests[0].Shades, []impl.Shade{{}, {}, {}, {Has: true, Page: 2, Frame: 0, Write: true}, {}, {Has: true, Page: 4, Frame: 2, Write: true}}) {
		t.Errorf("guest 0 has the shades %v", got.Guests[0].Shades)
	}
	if !slices.Equal(got.Guests[1].Shades, ledHost().Guests[1].Shades) {
		t.Errorf("guest 1 has the shades %v", got.Guests[1].Shades)
	}
	// A shade that is none has page 0, too, and does not lead there.
	h := bring(ledHost(), page{0, 0}, 6, true)
	wantShades(t, "PageOut of page 0", impl.PageOut(h, 0, 0), h)
}

func TestP43PageOwn(t *testing.T) {
	for _, h := range pageHosts() {
		for _, p := range hostPages(h) {
			got := impl.PageOwn(h, p.guest, p.page)
			wantMemory(t, "PageOwn", got, h)
			m := mapOf(got, p)
			if !m.In || !m.Write || !slices.Equal(inFrame(got, m.Frame), []page{p}) {
				t.Fatalf("PageOwn of %v of %v: %v", p, h, got)
			}
			wantHost(t, "PageOwn once more", impl.PageOwn(got, p.guest, p.page), got)
			if mapOf(h, p).Write {
				wantHost(t, "PageOwn of one that may be written", got, h)
			}
			if !mapOf(h, p).In {
				wantHost(t, "PageOwn of one that is out", got, impl.PageIn(h, p.guest, p.page))
			}
		}
	}
}

func TestP43PageOwnOfOneThatIsAlone(t *testing.T) {
	for _, p := range hostPages(twoOut()) {
		for _, base := range []impl.Host{ledHost(), bothAtHand(0)} {
			h := bring(pagedOut(base, p), p, impl.FrameMax-1, false)
			for _, other := range inFrame(h, impl.FrameMax-1) {
				if other != p {
					h = pagedOut(h, other)
				}
			}
			if p.page >= impl.TabLow {
				h = shaded(h, page{p.guest, 5}, impl.Shade{Has: true, Page: p.page, Frame: impl.FrameMax - 1})
			}
			want := copyHost(h)
			want.Guests[p.guest].Maps[p.page].Write = true
			wantHost(t, "PageOwn of one that is alone", impl.PageOwn(h, p.guest, p.page), want)
		}
	}
}

func TestP43PageOwnOfOneThatShares(t *testing.T) {
	for _, p := range hostPages(twoOut()) {
		for _, other := range hostPages(twoOut()) {
			if p == other {
				continue
			}
			// It goes to the first free frame; the other one stays and may not be written, though it is alone then.
			h := bring(bring(twoOut(), p, 0, false), other, 0, false)
			got := impl.PageOwn(h, p.guest, p.page)
			want := copyHost(h)
			want.Frames[1] = slices.Clone(h.Frames[0])
			want.Guests[p.guest].Maps[p.page] = impl.Map{In: true, Frame: 1, Write: true}
			wantHost(t, "PageOwn of one that shares its frame", got, want)
		}
	}
}

func TestP43PageOwnForgetsWhatLedToASharedPage(t *testing.T) {
	for _, other := range []page{{0, 4}, {1, 4}, {1, 3}} {
		h := bring(bring(twoOut(), page{0, 3}, 2, false), other, 2, false)
		h = shaded(h, page{0, 1}, impl.Shade{Has: true, Page: 3, Frame: 2})
		h = shaded(h, page{other.guest, 5}, impl.Shade{Has: true, Page: other.page, Frame: 2})
		wantShades(t, "PageOwn", impl.PageOwn(h, 0, 3), h, page{0, 3})
	}
}

func TestP43PageOwnWithoutAFreeFrame(t *testing.T) {
	for _, hand := range []int{0, 3, impl.FrameMax - 1} {
		h := bothAtHand(hand)
		next := (hand + 1) % impl.FrameMax
		// The page is in the frame at the hand itself: all others go out of it, and it comes back alone.
		got := impl.PageOwn(h, 1, 4)
		wantMemory(t, "PageOwn without a free frame", got, h)
		if got.Hand != next || mapOf(got, page{1, 4}) != (impl.Map{In: true, Frame: hand, Write: true}) || mapOf(got, page{0, 0}).In || mapOf(got, page{0, 4}).In {
			t.Errorf("PageOwn of one at the hand: %v", got)
		}
		wantFrames(t, "PageOwn of one at the hand", got, h)
		// It shares another frame: all go out of the one at the hand, the one that it shared stays.
		h = bring(h, page{1, 5}, next, false)
		got = impl.PageOwn(h, 1, 5)
		wantMemory(t, "PageOwn without a free frame", got, h)
		if got.Hand != next || mapOf(got, page{1, 5}) != (impl.Map{In: true, Frame: hand, Write: true}) || mapOf(got, page{0, 1}) != (impl.Map{In: true, Frame: next}) {
			t.Errorf("PageOwn of one behind the hand: %v", got)
		}
		wantStill(t, "PageOwn of one behind the hand", got, h, page{0, 0}, page{0, 4}, page{1, 4}, page{1, 5})
	}
}

func TestP47PageInAndPageOutOfTwoPages(t *testing.T) {
	steps := []func(impl.Host, int, int) impl.Host{impl.PageIn, impl.PageOut}
	for _, h := range []impl.Host{oneOut(), twoOut(), fullHost(), ledHost(), bothAtHand(7), packedHost(1, 0), packedHost(2, 1), twinHost(3, 2)} {
		for _, p := range hostPages(h) {
			for _, other := range hostPages(h) {
				for _, first := range steps {
					for _, second := range steps {
						wantMemory(t, "two steps", second(first(h, p.guest, p.page), other.guest, other.page), h)
					}
				}
			}
		}
	}
}

func TestP48OutAndInAgain(t *testing.T) {
	for _, h := range pageHosts() {
		for _, p := range hostPages(h) {
			out := impl.PageOut(h, p.guest, p.page)
			wantHost(t, "PageOut twice", impl.PageOut(out, p.guest, p.page), out)
			back := impl.PageIn(out, p.guest, p.page)
			wantMemory(t, "PageIn behind PageOut", back, h)
			gone := impl.PageOut(impl.PageIn(h, p.guest, p.page), p.guest, p.page)
			wantMemory(t, "PageOut behind PageIn", gone, h)
			if !mapOf(back, p).In || mapOf(gone, p).In {
				t.Fatalf("%v of %v: behind PageIn %v, behind PageOut %v", p, h, back, gone)
			}
		}
	}
}

func TestP49AllPagesBroughtIn(t *testing.T) {
	for _, h := range pageHosts() {
		got := h
		for _, p := range hostPages(h) {
			got = impl.PageIn(got, p.guest, p.page)
			wantMemory(t, "PageIn of each up to one", got, h)
			if !mapOf(got, p).In {
				t.Fatalf("PageIn of each up to %v of %v: %v", p, h, got)
			}
		}
	}
}

func TestP50AllPagesTakenOut(t *testing.T) {
	for _, h := range pageHosts() {
		got := h
		for _, p := range hostPages(h) {
			got = impl.PageOut(got, p.guest, p.page)
		}
		wantMemory(t, "PageOut of all", got, h)
		if len(impl.HostFree(got)) != impl.FrameMax {
			t.Fatalf("PageOut of all pages of %v: just %v are free", h, impl.HostFree(got))
		}
		for guest, g := range got.Guests {
			if !slices.Equal(g.Shades, make([]impl.Shade, impl.PageMax)) || !sameMem(g.Disk, seenMem(h, guest)) {
				t.Fatalf("PageOut of all pages of %v: %v", h, got)
			}
		}
		wantFrames(t, "PageOut of all", got, h)
	}
}

func TestP53PageInWithAFreeFrame(t *testing.T) {
	one, all := 0, 0
	for _, h := range pageHosts() {
		free := freeFrames(h)
		for _, p := range hostPages(h) {
			if mapOf(h, p).In || len(free) == 0 {
				continue
			}
			got := impl.PageIn(h, p.guest, p.page)
			if mapOf(got, p) != (impl.Map{In: true, Frame: free[0], Write: true}) || !slices.Equal(got.Frames[free[0]], h.Guests[p.guest].Disk[p.page]) {
				t.Fatalf("PageIn of %v of %v, with %v free: %v", p, h, free, got)
			}
			if !slices.Equal(got.Guests[p.guest].Disk[p.page], make([]int, impl.OffMax)) || got.Hand != h.Hand {
				t.Fatalf("PageIn of %v of %v: %v", p, h, got)
			}
			wantStill(t, "PageIn", got, h, p)
			wantShades(t, "PageIn", got, h)
			wantFrames(t, "PageIn", got, h, free[0])
			if len(free) == 1 {
				one++
			}
			if len(free) == impl.FrameMax {
				all++
			}
		}
	}
	if one < 10 || all < 10 {
		t.Errorf("one frame was free %d times, all of them %d times", one, all)
	}
}

func TestP53TheFirstFreeFrame(t *testing.T) {
	// Each set of frames is free once; the hand is in none of them, or in one.
	for used := range 1 << impl.FrameMax {
		h := twoOut()
		h.Hand = used % impl.FrameMax
		var want []int
		for frame := range impl.FrameMax {
			if used>>frame&1 == 1 {
				h = bring(h, page{frame / 4, frame % 4}, frame, true)
			} else {
				want = append(want, frame)
			}
		}
		if len(want) == 0 {
			continue
		}
		// One behind the other, as far as there is room.
		for i, p := range []page{{0, 4}, {1, 5}, {1, 4}, {0, 5}} {
			if i == len(want) {
				break
			}
			h = impl.PageIn(h, p.guest, p.page)
			if mapOf(h, p) != (impl.Map{In: true, Frame: want[i], Write: true}) {
				t.Fatalf("with %v free %v is in %v", want, p, mapOf(h, p))
			}
		}
		if h.Hand != used%impl.FrameMax {
			t.Fatalf("with %v free the hand moved", want)
		}
	}
}

func TestP54WhatGoesOutForOneThatComesIn(t *testing.T) {
	went := 0
	for _, h := range pageHosts() {
		for range 3 {
			for _, p := range hostPages(h) {
				next := impl.PageIn(h, p.guest, p.page)
				var gone []page
				for _, other := range hostPages(h) {
					if mapOf(h, other).In && !mapOf(next, other).In {
						gone = append(gone, other)
					}
				}
				none := len(freeFrames(h)) == 0 && !mapOf(h, p).In
				if none && !slices.Equal(gone, inFrame(h, h.Hand)) || !none && len(gone) > 0 {
					t.Fatalf("PageIn of %v of %v: %v went out", p, h, gone)
				}
				went += len(gone)
				h = next
			}
		}
	}
	if went < 100 {
		t.Errorf("just %d went out", went)
	}
}

func TestP54TheHand(t *testing.T) {
	for hand := range impl.FrameMax {
		for _, p := range []page{{0, 5}, {1, 5}} {
			h := bothAtHand(hand)
			got := impl.PageIn(h, p.guest, p.page)
			wantMemory(t, "PageIn without a free frame", got, h)
			want := []int{1, 2, 3, 4, 5, 6, 7, 0}[hand]
			if got.Hand != want || mapOf(got, p) != (impl.Map{In: true, Frame: hand, Write: true}) {
				t.Errorf("PageIn of %v with the hand at %d: %v", p, hand, got)
			}
			gone := []page{{0, 0}, {0, 4}, {1, 4}}
			for _, other := range gone {
				if mapOf(got, other) != (impl.Map{}) || !slices.Equal(got.Guests[other.guest].Disk[other.page], h.Frames[hand]) {
					t.Errorf("PageIn of %v with the hand at %d: %v is in %v", p, hand, other, mapOf(got, other))
				}
			}
			wantStill(t, "PageIn without a free frame", got, h, append(gone, p)...)
			wantShades(t, "PageIn without a free frame", got, h, gone...)
			wantFrames(t, "PageIn without a free frame", got, h, hand)
		}
	}
}

func TestP54TheHandGoesRound(t *testing.T) {
	// Eight pages fill all frames; each further one takes the frame that was filled longest ago.
	h := newHost(2)
	for i := range 60 {
		p := page{i / impl.PageMax % 2, i % impl.PageMax}
		h = impl.PageIn(h, p.guest, p.page)
		hand := 0
		if i >= impl.FrameMax {
			hand = (i - impl.FrameMax + 1) % impl.FrameMax
		}
		if mapOf(h, p) != (impl.Map{In: true, Frame: i % impl.FrameMax, Write: true}) || h.Hand != hand {
			t.Fatalf("page %d in a row: %v", i, h)
		}
	}
}

func TestP55PageOutAndDisk(t *testing.T) {
	for _, h := range pageHosts() {
		for _, p := range hostPages(h) {
			got := impl.PageOut(h, p.guest, p.page)
			if !slices.Equal(got.Guests[p.guest].Disk[p.page], seenMem(h, p.guest)[p.page]) {
				t.Fatalf("PageOut of %v of %v: %v", p, h, got)
			}
			for _, other := range hostPages(got) {
				if mapOf(got, other).In && !slices.Equal(got.Guests[other.guest].Disk[other.page], make([]int, impl.OffMax)) {
					t.Fatalf("PageOut of %v of %v: %v is in and on disk", p, h, other)
				}
			}
			wantStill(t, "PageOut", got, h, p)
			// What the frame had stays there, though it is free.
			wantFrames(t, "PageOut", got, h)
		}
	}
}

func TestPagesThatThereAreNone(t *testing.T) {
	steps := []func(impl.Host, int, int) impl.Host{impl.PageIn, impl.PageOut, impl.PageOwn}
	for _, h := range []impl.Host{oneOut(), twoOut(), fullHost(), ledHost(), bothAtHand(0), oneFrame(3)} {
		for i, step := range steps {
			for _, at := range append(farPages(), -1, impl.PageMax) {
				for guest := range h.Guests {
					wantHost(t, "a step of no page", step(h, guest, at), impl.Host{})
				}
			}
			for _, guest := range noGuestNumbers(len(h.Guests)) {
				for _, at := range []int{-1, 0, impl.PageMax - 1, impl.PageMax} {
					wantHost(t, "a step of no guest", step(h, guest, at), impl.Host{})
				}
			}
			for _, guest := range []int{0, len(h.Guests) - 1} {
				for _, at := range []int{0, impl.PageMax - 1} {
					if !impl.HostOk(step(h, guest, at)) {
						t.Errorf("step %d of page %d of guest %d of %v is nothing", i, at, guest, h)
					}
				}
			}
		}
	}
}

func TestPagesOfHostsThatAreNotOk(t *testing.T) {
	for _, w := range wrongHosts() {
		for guest := -1; guest <= impl.GuestMax; guest++ {
			for _, at := range []int{-1, 0, 2, impl.PageMax - 1, impl.PageMax} {
				wantHost(t, "PageIn: "+w.what, impl.PageIn(w.h, guest, at), impl.Host{})
				wantHost(t, "PageOut: "+w.what, impl.PageOut(w.h, guest, at), impl.Host{})
				wantHost(t, "PageOwn: "+w.what, impl.PageOwn(w.h, guest, at), impl.Host{})
			}
		}
	}
}
