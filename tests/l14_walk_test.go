package tests

import (
	"slices"
	"testing"

	"loop.example/casket/impl"
)

// knownHost is a host of two guests, all pages out; the table of guest 0 leads from page 0 to page 2, to be written, from page 1 to page 3, from page 4, whose word stands on page 1, to page 5, to be written, and from page 5 to page 2.
func knownHost() impl.Host {
	mem := [][]int{{6, 7, 0, 63}, {12, 5, 6, 7}, {1, 2, 3, 4}, {11, 12, 13, 14}, {21, 22, 23, 24}, {31, 32, 33, 34}}
	h, _ := impl.HostLoad(append(mem, evenMem(impl.PageMax, 6)...))
	return h
}

func TestKnownReadingIn(t *testing.T) {
	cases := []struct {
		page, told int
		// table is the page that the walk brings in, to frame 0, ahead of the one to which it leads.
		table int
		shade impl.Shade
	}{
		{0, 3, 0, impl.Shade{Has: true, Page: 2, Frame: 1, Write: true}},
		{1, 13, 0, impl.Shade{Has: true, Page: 3, Frame: 1}},
		{2, impl.GotFault, 0, impl.Shade{}},
		{3, impl.GotFault, 0, impl.Shade{}},
		{4, 33, 1, impl.Shade{Has: true, Page: 5, Frame: 1, Write: true}},
		{5, 3, 1, impl.Shade{Has: true, Page: 2, Frame: 1}},
	}
	for _, c := range cases {
		got := hostReadIn(knownHost(), page{0, c.page}, 2)
		want := bring(knownHost(), page{0, c.table}, 0, true)
		want.Frames[0] = slices.Clone(knownHost().Guests[0].Disk[c.table])
		if c.shade.Has {
			want = bring(want, page{0, c.shade.Page}, 1, true)
			want.Frames[1] = slices.Clone(knownHost().Guests[0].Disk[c.shade.Page])
		}
		want = shaded(want, page{0, c.page}, c.shade)
		wantCame(t, "HostReadIn", got, came{want, c.told})
	}
}

func TestKnownWritingIn(t *testing.T) {
	cases := []struct {
		page, told, table int
		shade             impl.Shade
	}{
		{0, 3, 0, impl.Shade{Has: true, Page: 2, Frame: 1, Write: true}},
		{1, impl.GotDenied, 0, impl.Shade{}},
		{2, impl.GotFault, 0, impl.Shade{}},
		{3, impl.GotFault, 0, impl.Shade{}},
		{4, 33, 1, impl.Shade{Has: true, Page: 5, Frame: 1, Write: true}},
		{5, impl.GotDenied, 1, impl.Shade{}},
	}
	for _, c := range cases {
		got := hostWriteIn(knownHost(), page{0, c.page}, 2, 40)
		want := bring(knownHost(), page{0, c.table}, 0, true)
		want.Frames[0] = slices.Clone(knownHost().Guests[0].Disk[c.table])
		if c.shade.Has {
			want = bring(want, page{0, c.shade.Page}, 1, true)
			want.Frames[1] = slices.Clone(knownHost().Guests[0].Disk[c.shade.Page])
			want.Frames[1][2] = 40
		}
		want = shaded(want, page{0, c.page}, c.shade)
		wantCame(t, "HostWriteIn", got, came{want, c.told})
	}
}

func TestTwoPagesThatLeadToOne(t *testing.T) {
	// Pages 0 and 5 lead to page 2; just the first of both may be written.
	wrote := hostWriteIn(knownHost(), page{0, 0}, 1, 50)
	read := hostReadIn(wrote.h, page{0, 5}, 1)
	if wrote.told != 2 || read.told != 50 {
		t.Errorf("2 is told as %d, and 50 read as %d", wrote.told, read.told)
	}
	first, second := shadeOf(read.h, page{0, 0}), shadeOf(read.h, page{0, 5})
	if first.Frame != second.Frame || first.Page != 2 || second.Page != 2 || !first.Write || second.Write {
		t.Errorf("the shades are %v and %v", first, second)
	}
	again := hostWriteIn(read.h, page{0, 0}, 1, 51)
	if got := hostReadIn(again.h, page{0, 5}, 1); got.told != 51 {
		t.Errorf("51 is read as %d", got.told)
	}
	denied := hostWriteIn(again.h, page{0, 5}, 1, 52)
	if got := hostReadIn(denied.h, page{0, 0}, 1); denied.told != impl.GotDenied || got.told != 51 {
		t.Errorf("what is denied is %d, and %d is read then", denied.told, got.told)
	}
	if shadeOf(denied.h, page{0, 0}) != first || shadeOf(denied.h, page{0, 5}).Has {
		t.Errorf("behind what is denied the shades are %v", denied.h.Guests[0].Shades)
	}
}

func TestTwoPagesThatLeadToOneThatIsShared(t *testing.T) {
	// Both have a shade that may not be written; when one of both is written, the page is another's no more, and both lead to where it is then.
	for _, other := range []page{{0, 3}, {1, 2}} {
		h := bring(bring(twoOut(), page{0, 2}, 3, false), other, 3, false)
		for _, from := range []int{1, 4} {
			h = entered(h, page{0, from}, impl.Entry{Has: true, Page: 2, Write: true})
		}
		h = hostReadIn(hostReadIn(h, page{0, 1}, 0).h, page{0, 4}, 0).h
		for _, from := range []int{1, 4} {
			if s := shadeOf(h, page{0, from}); s != (impl.Shade{Has: true, Page: 2, Frame: 3}) {
				t.Fatalf("a shade of a page that is shared is %v", s)
			}
		}
		was := h.Frames[3][2]
		got := hostWriteIn(h, page{0, 1}, 2, otherWord(was))
		wantChanged(t, "HostWriteIn to a page that is shared", got.h, h, 0, changedMem(seenMem(h, 0), place{2, 2}, otherWord(was)))
		m := mapOf(got.h, page{0, 2})
		if got.told != was || m.Frame == 3 || shadeOf(got.h, page{0, 1}) != (impl.Shade{Has: true, Page: 2, Frame: m.Frame, Write: true}) || shadeOf(got.h, page{0, 4}).Has {
			t.Errorf("HostWriteIn to a page that is shared: %v", got)
		}
		if again := hostReadIn(got.h, page{0, 4}, 2); again.told != otherWord(was) {
			t.Errorf("by the other page %d is read in", again.told)
		}
	}
}

func TestAShadeThatMayNotBeWrittenOfAPageThatMay(t *testing.T) {
	// The page was alone, and might not be written, when its shade came; behind HostWrite it may, and the shade tells as little as ahead, until it is written in.
	h := bring(twoOut(), page{1, 4}, 6, false)
	h = entered(h, page{1, 2}, impl.Entry{Has: true, Page: 4, Write: true})
	h = hostReadIn(h, page{1, 2}, 0).h
	h = hostWrite(h, page{1, 4}, 0, 8).h
	if s := shadeOf(h, page{1, 2}); s != (impl.Shade{Has: true, Page: 4, Frame: 6}) || !mapOf(h, page{1, 4}).Write {
		t.Fatalf("the shade is %v", s)
	}
	got := hostWriteIn(h, page{1, 2}, 0, 9)
	want := copyHost(h)
	want.Frames[6][0] = 9
	wantCame(t, "HostWriteIn", got, came{shaded(want, page{1, 2}, impl.Shade{Has: true, Page: 4, Frame: 6, Write: true}), 8})
}

func TestAShadeThatLeadsElsewhereThanTheTable(t *testing.T) {
	h := hostReadIn(hostReadIn(knownHost(), page{0, 0}, 0).h, page{0, 1}, 0).h
	// From page 0 the table leads to page 4 then, not to be written, and from page 1 nowhere.
	h = hostWrite(hostWrite(h, page{0, 0}, 0, 9).h, page{0, 0}, 1, 0).h
	for off := range impl.OffMax {
		if got := hostReadIn(h, page{0, 0}, off); got.told != []int{1, 2, 3, 4}[off] {
			t.Errorf("by the shade %d is read", got.told)
		}
		if got := hostReadIn(h, page{0, 1}, off); got.told != []int{11, 12, 13, 14}[off] {
			t.Errorf("by the shade %d is read", got.told)
		}
	}
	// The shade that may be written leads on; the other one is asked for no more.
	wrote := hostWriteIn(h, page{0, 0}, 3, 60)
	if got := impl.HostSee(wrote.h, 0); wrote.told != 4 || got[2][3] != 60 || got[4][3] != 24 {
		t.Errorf("by the shade %v is written", got)
	}
	fault := hostWriteIn(h, page{0, 1}, 3, 60)
	wantCame(t, "HostWriteIn by a shade that may not be written", fault, came{shaded(h, page{0, 1}, impl.Shade{}), impl.GotFault})
	if got := hostReadIn(fault.h, page{0, 1}, 0); got.told != impl.GotFault {
		t.Errorf("HostReadIn is %d then", got.told)
	}
	// Without shades it is the table that leads on.
	forgot := impl.HostForget(h, 0)
	if got := hostReadIn(forgot, page{0, 0}, 1); got.told != 22 {
		t.Errorf("by the table %d is read", got.told)
	}
	if got := hostWriteIn(forgot, page{0, 0}, 1, 60); got.told != impl.GotDenied {
		t.Errorf("by the table %d is told", got.told)
	}
	if got := hostReadIn(forgot, page{0, 1}, 1); got.told != impl.GotFault {
		t.Errorf("by the table %d is read", got.told)
	}
	// And another guest's shades lead on for nobody else.
	if got := hostReadIn(h, page{1, 0}, 1); got.told != 6 || shadeOf(got.h, page{0, 0}) != shadeOf(h, page{0, 0}) {
		t.Errorf("guest 1 reads %d", got.told)
	}
}

func TestAShadeIsForgottenBehindWhatIsWrong(t *testing.T) {
	gone := map[int]int{}
	for i, r := range shadedReaches() {
		s := shadeOf(r.h, r.from)
		got := hostWriteIn(r.h, r.from, i%impl.OffMax, 5)
		if s.Write || isWord(got.told) {
			continue
		}
		if shadeOf(got.h, r.from) != (impl.Shade{}) {
			t.Fatalf("%s: behind %d the shade is %v", r.what, got.told, shadeOf(got.h, r.from))
		}
		gone[got.told]++
	}
	if gone[impl.GotFault] < 100 || gone[impl.GotDenied] < 100 {
		t.Errorf("just %v shades went", gone)
	}
}

func TestWhatIsDoneByAShadeWalksNowhere(t *testing.T) {
	// The page of the table stays out, and nothing else is changed but the word.
	for _, r := range shadedReaches() {
		s := shadeOf(r.h, r.from)
		wantCame(t, "HostReadIn by a shade: "+r.what, hostReadIn(r.h, r.from, 1), came{r.h, r.h.Frames[s.Frame][1]})
		if s.Write {
			want := copyHost(r.h)
			want.Frames[s.Frame][1] = 62
			wantCame(t, "HostWriteIn by a shade: "+r.what, hostWriteIn(r.h, r.from, 1, 62), came{want, r.h.Frames[s.Frame][1]})
		}
	}
}

// fullTable is a host without a free frame: from the hand on there are pages 1 to 4 of guest 0, and 0 to 3 of guest 1; all others are out.
func fullTable(hand int) impl.Host {
	h := twoOut()
	h.Hand = hand
	for i, p := range []page{{0, 1}, {0, 2}, {0, 3}, {0, 4}, {1, 0}, {1, 1}, {1, 2}, {1, 3}} {
		h = bring(h, p, (hand+i)%impl.FrameMax, true)
	}
	return h
}

// walkActs are both acts that walk, as one.
func walkActs() []func(impl.Host, page, int) came {
	return []func(impl.Host, page, int) came{
		hostReadIn,
		func(h impl.Host, p page, off int) came { return hostWriteIn(h, p, off, seenMem(h, 0)[5][off]) },
	}
}

func TestAWalkBringsTheTableIn(t *testing.T) {
	for hand := range impl.FrameMax {
		next := (hand + 1) % impl.FrameMax
		// The page of the table is out, and so is the one to which it leads: the frames at the hand are cleared in turn.
		h := entered(fullTable(hand), page{0, 2}, impl.Entry{Has: true, Page: 5, Write: true})
		if !impl.HostOk(h) || len(freeFrames(h)) != 0 || mapOf(h, page{0, 0}).In || mapOf(h, page{0, 5}).In {
			t.Fatalf("the host is %v", h)
		}
		for _, act := range walkActs() {
			got := act(h, page{0, 2}, 3)
			wantMemory(t, "a walk without a free frame", got.h, h)
			if got.h.Hand != (hand+2)%impl.FrameMax || got.told != h.Guests[0].Disk[5][3] {
				t.Errorf("a walk with the hand at %d: %d is told, and the hand at %d", hand, got.told, got.h.Hand)
			}
			if mapOf(got.h, page{0, 0}) != (impl.Map{In: true, Frame: hand, Write: true}) || mapOf(got.h, page{0, 5}) != (impl.Map{In: true, Frame: next, Write: true}) {
				t.Errorf("a walk with the hand at %d: %v", hand, got.h)
			}
			wantStill(t, "a walk without a free frame", got.h, h, page{0, 0}, page{0, 1}, page{0, 2}, page{0, 5})
			if shadeOf(got.h, page{0, 2}) != (impl.Shade{Has: true, Page: 5, Frame: next, Write: true}) {
				t.Errorf("a walk with the hand at %d: the shade is %v", hand, shadeOf(got.h, page{0, 2}))
			}
		}
	}
}

func TestAWalkBringsTheTableInThoughNothingComesOfIt(t *testing.T) {
	for hand := range impl.FrameMax {
		nowhere := entered(fullTable(hand), page{0, 2}, impl.Entry{})
		barred := entered(fullTable(hand), page{0, 2}, impl.Entry{Has: true, Page: 5})
		wantCame(t, "HostReadIn", hostReadIn(nowhere, page{0, 2}, 3), came{pagedIn(nowhere, page{0, 0}), impl.GotFault})
		wantCame(t, "HostWriteIn", hostWriteIn(nowhere, page{0, 2}, 3, 4), came{pagedIn(nowhere, page{0, 0}), impl.GotFault})
		denied := hostWriteIn(barred, page{0, 2}, 3, 4)
		wantCame(t, "HostWriteIn", denied, came{pagedIn(barred, page{0, 0}), impl.GotDenied})
		if mapOf(denied.h, page{0, 0}) != (impl.Map{In: true, Frame: hand, Write: true}) || mapOf(denied.h, page{0, 1}).In || denied.h.Hand != (hand+1)%impl.FrameMax {
			t.Errorf("behind what is denied, the hand at %d: %v", hand, denied.h)
		}
	}
}

func TestAWalkClearsTheFrameOfTheTable(t *testing.T) {
	for hand := range impl.FrameMax {
		// The word of page 4 stands on page 1, which is in the frame at the hand.
		h := entered(fullTable(hand), page{0, 4}, impl.Entry{Has: true, Page: 5, Write: true})
		for _, act := range walkActs() {
			got := act(h, page{0, 4}, 1)
			wantMemory(t, "a walk that clears the frame of the table", got.h, h)
			if got.told != h.Guests[0].Disk[5][1] || mapOf(got.h, page{0, 1}).In || got.h.Hand != (hand+1)%impl.FrameMax {
				t.Errorf("the hand at %d: %v", hand, got)
			}
			if shadeOf(got.h, page{0, 4}) != (impl.Shade{Has: true, Page: 5, Frame: hand, Write: true}) {
				t.Errorf("the hand at %d: the shade is %v", hand, shadeOf(got.h, page{0, 4}))
			}
			// Nobody walks then.
			wantCame(t, "HostReadIn by the shade", hostReadIn(got.h, page{0, 4}, 1), got)
		}
	}
}

func TestAWalkClearsTheFrameOfThePageToWhichItLeads(t *testing.T) {
	for hand := range impl.FrameMax {
		// Page 2 is in the frame behind the hand; so the table is to come in there.
		h := entered(fullTable(hand), page{0, 3}, impl.Entry{Has: true, Page: 2, Write: true})
		h.Hand = (hand + 1) % impl.FrameMax
		h = shaded(h, page{0, 1}, impl.Shade{Has: true, Page: 2, Frame: h.Hand, Write: true})
		want := seenMem(h, 0)[2][0]
		read := hostReadIn(h, page{0, 3}, 0)
		wrote := hostWriteIn(h, page{0, 3}, 0, want)
		for _, got := range []came{read, wrote} {
			wantMemory(t, "a walk that clears the frame to which it leads", got.h, h)
			next := (h.Hand + 1) % impl.FrameMax
			if got.told != want || mapOf(got.h, page{0, 0}).Frame != h.Hand || mapOf(got.h, page{0, 2}) != (impl.Map{In: true, Frame: next, Write: true}) {
				t.Errorf("the hand at %d: %v", h.Hand, got)
			}
			if shadeOf(got.h, page{0, 3}) != (impl.Shade{Has: true, Page: 2, Frame: next, Write: true}) || shadeOf(got.h, page{0, 1}).Has {
				t.Errorf("the hand at %d: the shades are %v", h.Hand, got.h.Guests[0].Shades)
			}
		}
	}
}

func TestWritingInToAPageThatSharesTheFrameOfTheTable(t *testing.T) {
	for hand := range impl.FrameMax {
		// Page 5 is in the frame of page 1, which tells where page 4 leads: to page 5 itself. What is written there must not change the table.
		h := bring(fullTable(hand), page{0, 5}, hand, false)
		h.Guests[0].Maps[1].Write = false
		h = entered(h, page{0, 4}, impl.Entry{Has: true, Page: 5, Write: true})
		was := h.Frames[hand][0]
		got := hostWriteIn(h, page{0, 4}, 0, 0)
		wantChanged(t, "HostWriteIn", got.h, h, 0, changedMem(seenMem(h, 0), place{5, 0}, 0))
		if got.told != was || mapOf(got.h, page{0, 1}).In || mapOf(got.h, page{0, 5}) != (impl.Map{In: true, Frame: hand, Write: true}) {
			t.Errorf("the hand at %d: %v", hand, got)
		}
		if again := hostReadIn(impl.HostForget(got.h, 0), page{0, 4}, 0); again.told != 0 {
			t.Errorf("the hand at %d: %d is read in", hand, again.told)
		}
	}
}

func TestManyActs(t *testing.T) {
	// Each act of a long row is what the document says of the host behind the one ahead.
	for seed := range 12 {
		d := &dice{uint64(seed) + 177}
		h := tabled(twinHost(seed, d.roll(impl.FrameMax+1)), seed)
		for range 300 {
			p := page{d.roll(len(h.Guests)), d.roll(impl.PageMax)}
			off, word := d.roll(impl.OffMax), d.roll(14)
			var got, want came
			switch d.roll(8) {
			case 0:
				got, want = hostRead(h, p, off), readOf(h, p, off)
			case 1:
				got, want = hostWrite(h, p, off, word), writeOf(h, p, off, word)
			case 2, 3:
				got, want = hostReadIn(h, p, off), readInOf(h, p, off)
			case 4, 5:
				got, want = hostWriteIn(h, p, off, word), writeInOf(h, p, off, word)
			case 6:
				got.h, want.h = impl.HostForget(h, p.guest), forgotOf(h, p.guest)
			default:
				got.h, _ = impl.PageJoin(h)
				want.h, _ = pageJoined(h)
			}
			wantCame(t, "an act of many", got, want)
			if !impl.HostOk(got.h) {
				t.Fatalf("behind an act of many the host is not ok: %v", got.h)
			}
			h = got.h
		}
	}
}
