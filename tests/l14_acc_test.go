package tests

import (
	"slices"
	"testing"

	"loop.example/casket/impl"
)

func TestReadingAndWritingAsTheDocumentSays(t *testing.T) {
	for _, h := range accHosts() {
		for _, p := range hostPages(h) {
			for off := range impl.OffMax {
				wantCame(t, "HostRead", hostRead(h, p, off), readOf(h, p, off))
				for _, word := range []int{0, impl.WordMax} {
					wantCame(t, "HostWrite", hostWrite(h, p, off, word), writeOf(h, p, off, word))
				}
			}
		}
	}
}

func TestP58HostRead(t *testing.T) {
	in, out := 0, 0
	for _, h := range accHosts() {
		for _, p := range hostPages(h) {
			mem := seenMem(h, p.guest)
			for off := range impl.OffMax {
				got := hostRead(h, p, off)
				if got.told != impl.FlatRead(mem, p.page, off) {
					t.Fatalf("HostRead of place %d of %v of\n%v is %d", off, p, h, got.told)
				}
				wantMemory(t, "HostRead", got.h, h)
				if mapOf(h, p).In {
					in++
				} else {
					out++
				}
			}
		}
	}
	if in < 1000 || out < 1000 {
		t.Errorf("%d of pages that are in, %d of pages that are out", in, out)
	}
}

func TestP58HostReadOfOneThatIsInAndOfOneThatIsOut(t *testing.T) {
	h, _ := impl.HostLoad(slices.Concat(mixedMem(impl.PageMax, 1), mixedMem(impl.PageMax, 6)))
	out := hostRead(h, page{1, 4}, 3)
	if out.told != mixedMem(impl.PageMax, 6)[4][3] || mapOf(out.h, page{1, 4}) != (impl.Map{In: true, Write: true}) {
		t.Errorf("HostRead of one that is out is %d, with the host %v", out.told, out.h)
	}
	in := hostRead(out.h, page{1, 4}, 0)
	if in.told != mixedMem(impl.PageMax, 6)[4][0] {
		t.Errorf("HostRead of one that is in is %d", in.told)
	}
	wantHost(t, "HostRead of one that is in", in.h, out.h)
	// One that may not be written is read, and may not be written then either.
	for _, shared := range []impl.Host{oneFrame(6), bring(twoOut(), page{0, 2}, 6, false)} {
		got := hostRead(shared, page{0, 2}, 1)
		wantCame(t, "HostRead of one that may not be written", got, came{shared, shared.Frames[6][1]})
	}
}

func TestP59HostWrite(t *testing.T) {
	for i, h := range accHosts() {
		for _, p := range hostPages(h) {
			off := someOff(i, p)
			mem := seenMem(h, p.guest)
			for _, word := range []int{0, impl.WordMax, otherWord(mem[p.page][off]), mem[p.page][off]} {
				want, was := impl.FlatWrite(mem, p.page, off, word)
				got := hostWrite(h, p, off, word)
				if got.told != was {
					t.Fatalf("HostWrite to place %d of %v of\n%v is %d, and has to be %d", off, p, h, got.told, was)
				}
				wantChanged(t, "HostWrite", got.h, h, p.guest, want)
			}
		}
	}
}

func TestP59HostWriteToEachKindOfPage(t *testing.T) {
	for _, p := range hostPages(twoOut()) {
		mate := page{p.guest, (p.page + 1) % impl.PageMax}
		for s := isOut; s <= withOther; s++ {
			for _, full := range []bool{false, true} {
				h := inState(twoOut(), p, s, 3, mate)
				if full {
					h = filled(h, p)
				}
				for hand := range impl.FrameMax {
					h.Hand = hand
					mem := seenMem(h, p.guest)
					word := otherWord(mem[p.page][2])
					got := hostWrite(h, p, 2, word)
					wantCame(t, "HostWrite", got, writeOf(h, p, 2, word))
					wantChanged(t, "HostWrite", got.h, h, p.guest, changedMem(mem, place{p.page, 2}, word))
					if m := mapOf(got.h, p); !m.In || !m.Write || !slices.Equal(inFrame(got.h, m.Frame), []page{p}) {
						t.Fatalf("HostWrite to %v, state %d, of\n%v is\n%v", p, s, h, got.h)
					}
				}
			}
		}
	}
}

func TestP59HostWriteToOneThatShares(t *testing.T) {
	// The one that is written goes to the first free frame; who shared its frame stays, with what it had.
	for _, other := range []page{{0, 4}, {0, 1}, {1, 3}, {1, 0}} {
		h := bring(bring(twoOut(), page{0, 3}, 0, false), other, 0, false)
		got := hostWrite(h, page{0, 3}, 1, 60)
		want := copyHost(h)
		want.Frames[1] = slices.Clone(h.Frames[0])
		want.Frames[1][1] = 60
		want.Guests[0].Maps[3] = impl.Map{In: true, Frame: 1, Write: true}
		wantCame(t, "HostWrite to one that shares its frame", got, came{want, h.Frames[0][1]})
	}
	// One that is alone, and might not be written, stays where it is.
	h := bring(twoOut(), page{1, 5}, 6, false)
	want := copyHost(h)
	want.Frames[6][3] = 1
	want.Guests[1].Maps[5].Write = true
	wantCame(t, "HostWrite to one that is alone", hostWrite(h, page{1, 5}, 3, 1), came{want, h.Frames[6][3]})
}

func TestP59HostWriteWithoutAFreeFrame(t *testing.T) {
	for hand := range impl.FrameMax {
		// Page 5 is out, and comes into the frame at the hand, out of which pages of both guests go.
		h := bothAtHand(hand)
		got := hostWrite(h, page{0, 5}, 0, 44)
		want := pagedIn(h, page{0, 5})
		was := want.Frames[hand][0]
		want.Frames[hand][0] = 44
		wantCame(t, "HostWrite without a free frame", got, came{want, was})
		// Page 4 shares that frame with another guest's, and is written alone.
		got = hostWrite(h, page{1, 4}, 3, 45)
		wantChanged(t, "HostWrite without a free frame", got.h, h, 1, changedMem(seenMem(h, 1), place{4, 3}, 45))
		if got.h.Hand != (hand+1)%impl.FrameMax || mapOf(got.h, page{0, 4}).In || mapOf(got.h, page{0, 0}).In || mapOf(got.h, page{1, 4}) != (impl.Map{In: true, Frame: hand, Write: true}) {
			t.Errorf("HostWrite to one at the hand %d: %v", hand, got.h)
		}
	}
}

func TestP66HostReadOnceMore(t *testing.T) {
	for i, h := range accHosts() {
		for _, p := range hostPages(h) {
			got := hostRead(h, p, someOff(i, p))
			wantCame(t, "HostRead once more", hostRead(got.h, p, someOff(i, p)), got)
			if !mapOf(got.h, p).In {
				t.Fatalf("behind HostRead %v is out: %v", p, got.h)
			}
			if mapOf(h, p).In {
				wantHost(t, "HostRead of one that is in", got.h, h)
			}
		}
	}
}

func TestP67HostWriteAndBack(t *testing.T) {
	for i, h := range accHosts() {
		for _, p := range hostPages(h) {
			off := someOff(i, p)
			word := otherWord(seenMem(h, p.guest)[p.page][off])
			there := hostWrite(h, p, off, word)
			if got := hostRead(there.h, p, off); got.told != word {
				t.Fatalf("behind HostWrite of %d to place %d of %v of\n%v HostRead is %d", word, off, p, h, got.told)
			}
			back := hostWrite(there.h, p, off, there.told)
			if back.told != word {
				t.Fatalf("what was written is told as %d", back.told)
			}
			wantMemory(t, "HostWrite and back", back.h, h)
		}
	}
}

// joinedAll is the host behind as many PageJoins as can be.
func joinedAll(h impl.Host) (impl.Host, int) {
	count := 0
	for {
		next, ok := impl.PageJoin(h)
		if !ok {
			return h, count
		}
		h = next
		count++
	}
}

func TestP68HostWriteBehindPageJoins(t *testing.T) {
	joins := 0
	for i, h := range append(pageHosts(), alikeHost(ledHost(), 0, 1, 2, 3, 4, 5), alikeHost(bothAtHand(2), 0, 1, 2, 3, 4, 5, 6, 7)) {
		joined, count := joinedAll(h)
		joins += count
		for _, p := range hostPages(h) {
			off := someOff(i, p)
			mem := seenMem(h, p.guest)
			word := otherWord(mem[p.page][off])
			got := hostWrite(joined, p, off, word)
			want, was := impl.FlatWrite(mem, p.page, off, word)
			if got.told != was {
				t.Fatalf("HostWrite behind PageJoins of\n%v is %d", h, got.told)
			}
			wantChanged(t, "HostWrite behind PageJoins", got.h, h, p.guest, want)
		}
	}
	if joins < 100 {
		t.Errorf("just %d joins", joins)
	}
}

func TestP68WhatBothGuestsHaveIsWrittenByOne(t *testing.T) {
	// All pages of both guests are noughts, and all that are in share one frame.
	h := newHost(2)
	for _, p := range []page{{0, 2}, {0, 3}, {0, 4}, {1, 2}, {1, 3}} {
		h = impl.PageIn(h, p.guest, p.page)
	}
	h, _ = joinedAll(h)
	if len(inFrame(h, 0)) != 5 {
		t.Fatalf("not all share one frame: %v", h)
	}
	for _, p := range hostPages(h) {
		got := hostWrite(h, p, 1, 9)
		wantChanged(t, "HostWrite", got.h, h, p.guest, changedMem(evenMem(impl.PageMax, 0), place{p.page, 1}, 9))
	}
}

func TestP74WhereReadAndWrittenPagesAre(t *testing.T) {
	for i, h := range accHosts() {
		for _, p := range hostPages(h) {
			off := someOff(i, p)
			wantHost(t, "HostRead", hostRead(h, p, off).h, impl.PageIn(h, p.guest, p.page))
			owned := impl.PageOwn(h, p.guest, p.page)
			frame := mapOf(owned, p).Frame
			want := copyHost(owned)
			want.Frames[frame][off] = otherWord(owned.Frames[frame][off])
			wantHost(t, "HostWrite", hostWrite(h, p, off, want.Frames[frame][off]).h, want)
			wantHost(t, "HostWrite of the word that is there", hostWrite(h, p, off, owned.Frames[frame][off]).h, owned)
		}
	}
}

// shadesOf is how many shades a guest has.
func shadesOf(h impl.Host, guest int) int {
	count := 0
	for _, s := range h.Guests[guest].Shades {
		if s.Has {
			count++
		}
	}
	return count
}

// allShades is a host of which each page of each guest's own guest has a shade.
func allShades() impl.Host {
	h := ledHost()
	for _, p := range hostPages(h) {
		to := page{p.guest, impl.TabLow + p.page%3}
		h = shaded(h, p, impl.Shade{Has: true, Page: to.page, Frame: mapOf(h, to).Frame, Write: p.page%2 == 0})
	}
	return h
}

func TestP65HostForget(t *testing.T) {
	none, some, all := 0, 0, 0
	for _, h := range append(accHosts(), ledHost(), fullHost(), allShades(), newHost(1), newHost(2)) {
		for guest := range h.Guests {
			got := impl.HostForget(h, guest)
			wantHost(t, "HostForget", got, forgotOf(h, guest))
			if !slices.Equal(got.Guests[guest].Shades, make([]impl.Shade, impl.PageMax)) {
				t.Fatalf("behind HostForget guest %d has the shades %v", guest, got.Guests[guest].Shades)
			}
			wantMemory(t, "HostForget", got, h)
			wantStill(t, "HostForget", got, h)
			wantHost(t, "HostForget twice", impl.HostForget(got, guest), got)
			switch shadesOf(h, guest) {
			case 0:
				none++
				wantHost(t, "HostForget without a shade", got, h)
			case impl.PageMax:
				all++
			default:
				some++
			}
		}
	}
	if none < 10 || some < 10 || all < 2 {
		t.Errorf("guests without a shade: %d, with some: %d, with all: %d", none, some, all)
	}
}

func TestP75HostForgetLeavesAllElse(t *testing.T) {
	kept := 0
	for _, h := range append(accHosts(), ledHost(), fullHost(), allShades()) {
		for guest := range h.Guests {
			got := impl.HostForget(h, guest)
			for other := range h.Guests {
				if other != guest {
					kept += shadesOf(got, other)
					if !sameGuest(got.Guests[other], h.Guests[other]) {
						t.Fatalf("HostForget of guest %d of\n%v is\n%v", guest, h, got)
					}
				}
			}
			wantFrames(t, "HostForget", got, h)
			if got.Hand != h.Hand || len(got.Guests) != len(h.Guests) {
				t.Fatalf("HostForget of guest %d of\n%v is\n%v", guest, h, got)
			}
		}
	}
	if kept < 100 {
		t.Errorf("the other guests kept just %d shades", kept)
	}
}
