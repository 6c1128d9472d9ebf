package tests

import (
	"slices"
	"testing"

	"loop.example/casket/impl"
)

// alikeHost is the host with the same in each of these frames.
func alikeHost(h impl.Host, frames ...int) impl.Host {
	made := copyHost(h)
	for _, frame := range frames {
		made.Frames[frame] = []int{9, 0, 63, 4}
	}
	return made
}

func TestJoinsAndMovesAsTheDocumentSays(t *testing.T) {
	joins, moves := 0, 0
	for _, h := range append(pageHosts(), ledHost(), alikeHost(ledHost(), 1, 4), bothAtHand(0)) {
		got, ok := impl.PageJoin(h)
		want, wantOk := pageJoined(h)
		wantHost(t, "PageJoin", got, want)
		if ok != wantOk {
			t.Fatalf("PageJoin(%v) is %v", h, ok)
		}
		if ok {
			joins++
		}
		for frame := range impl.FrameMax {
			got, ok := impl.PageMove(h, frame)
			want, wantOk := pageMoved(h, frame)
			wantHost(t, "PageMove", got, want)
			if ok != wantOk {
				t.Fatalf("PageMove(%v, %d) is %v", h, frame, ok)
			}
			if ok {
				moves++
			}
		}
	}
	if joins < 40 || moves < 200 {
		t.Errorf("%d joins, %d moves", joins, moves)
	}
}

func TestP44PageJoin(t *testing.T) {
	for _, h := range pageHosts() {
		got, ok := impl.PageJoin(h)
		wantMemory(t, "PageJoin", got, h)
		pairs := twinFrames(h)
		if ok != (len(pairs) > 0) {
			t.Fatalf("PageJoin(%v) is %v, and %v have the same", h, ok, pairs)
		}
		if !ok {
			wantHost(t, "PageJoin, if no two have the same,", got, h)
			continue
		}
		low, high := pairs[0][0], pairs[0][1]
		if len(impl.HostFree(got)) != len(impl.HostFree(h))+1 || !slices.Contains(impl.HostFree(got), high) {
			t.Fatalf("PageJoin(%v) of %d and %d: %v are free", h, low, high, impl.HostFree(got))
		}
		for _, p := range inFrame(got, low) {
			if mapOf(got, p).Write {
				t.Fatalf("PageJoin(%v): %v may be written", h, p)
			}
		}
	}
}

func TestP44FramesThatHaveTheSame(t *testing.T) {
	// Three pages, in frames 1, 4 and 6; 0 and 2 are free.
	base := bring(bring(bring(twoOut(), page{0, 3}, 1, true), page{1, 3}, 4, true), page{0, 4}, 6, false)
	cases := []struct {
		what   string
		frames []int
		ok     bool
		in     []impl.Map // of those three pages
	}{
		{"none have the same", nil, false, []impl.Map{{In: true, Frame: 1, Write: true}, {In: true, Frame: 4, Write: true}, {In: true, Frame: 6}}},
		{"free ones alone", []int{0, 2}, false, []impl.Map{{In: true, Frame: 1, Write: true}, {In: true, Frame: 4, Write: true}, {In: true, Frame: 6}}},
		{"a free one and a used one", []int{0, 4}, false, []impl.Map{{In: true, Frame: 1, Write: true}, {In: true, Frame: 4, Write: true}, {In: true, Frame: 6}}},
		{"a used one and a free one", []int{4, 7}, false, []impl.Map{{In: true, Frame: 1, Write: true}, {In: true, Frame: 4, Write: true}, {In: true, Frame: 6}}},
		{"the first two", []int{1, 4}, true, []impl.Map{{In: true, Frame: 1}, {In: true, Frame: 1}, {In: true, Frame: 6}}},
		{"the last two", []int{4, 6}, true, []impl.Map{{In: true, Frame: 1, Write: true}, {In: true, Frame: 4}, {In: true, Frame: 4}}},
		{"first and last", []int{1, 6}, true, []impl.Map{{In: true, Frame: 1}, {In: true, Frame: 4, Write: true}, {In: true, Frame: 1}}},
		{"two used ones, and free ones", []int{0, 4, 5, 6}, true, []impl.Map{{In: true, Frame: 1, Write: true}, {In: true, Frame: 4}, {In: true, Frame: 4}}},
		{"all three", []int{1, 4, 6}, true, []impl.Map{{In: true, Frame: 1}, {In: true, Frame: 1}, {In: true, Frame: 6}}},
		{"all", []int{0, 1, 2, 3, 4, 5, 6, 7}, true, []impl.Map{{In: true, Frame: 1}, {In: true, Frame: 1}, {In: true, Frame: 6}}},
	}
	for _, c := range cases {
		h := alikeHost(base, c.frames...)
		got, ok := impl.PageJoin(h)
		in := []impl.Map{mapOf(got, page{0, 3}), mapOf(got, page{1, 3}), mapOf(got, page{0, 4})}
		if ok != c.ok || !slices.Equal(in, c.in) {
			t.Errorf("%s: PageJoin is %v, and pages are in %v", c.what, ok, in)
		}
		wantMemory(t, c.what, got, h)
		wantFrames(t, c.what, got, h)
		if got.Hand != h.Hand {
			t.Errorf("%s: Hand is %d", c.what, got.Hand)
		}
	}
}

func TestP44OneWordTellsFramesApart(t *testing.T) {
	for _, at := range places(impl.FrameMax) {
		h := alikeHost(bring(bring(twoOut(), page{0, 0}, 2, true), page{1, 0}, 7, true), 2, 7)
		h.Frames[at.page][at.off] ^= 1
		if _, ok := impl.PageJoin(h); ok == (at.page == 2 || at.page == 7) {
			t.Errorf("with another word at %v PageJoin is %v", at, ok)
		}
	}
}

func TestP44ByTheLowerFrame(t *testing.T) {
	// Frames 0 and 7 have the same, and so have 1 and 2, which are nearer to each other.
	h := twoOut()
	for frame := range impl.FrameMax {
		h = bring(h, page{frame / 4, frame % 4}, frame, true)
	}
	h.Frames[7], h.Frames[2] = slices.Clone(h.Frames[0]), slices.Clone(h.Frames[1])
	got, ok := impl.PageJoin(h)
	if !ok || !slices.Equal(impl.HostFree(got), []int{7}) || mapOf(got, page{1, 3}) != (impl.Map{In: true}) {
		t.Errorf("PageJoin, first: %v", got)
	}
	got, ok = impl.PageJoin(got)
	if !ok || !slices.Equal(impl.HostFree(got), []int{2, 7}) || mapOf(got, page{0, 2}) != (impl.Map{In: true, Frame: 1}) {
		t.Errorf("PageJoin, second: %v", got)
	}
	again, ok := impl.PageJoin(got)
	wantHost(t, "PageJoin, third,", again, got)
	if ok {
		t.Errorf("PageJoin, third: %v", again)
	}
}

func TestP44ShadesThatPageJoinForgets(t *testing.T) {
	for _, h := range pageHosts() {
		got, ok := impl.PageJoin(h)
		var gone []page
		if ok {
			pair := twinFrames(h)[0]
			gone = append(inFrame(h, pair[0]), inFrame(h, pair[1])...)
		}
		wantShades(t, "PageJoin", got, h, gone...)
	}
	// Of both guests page 3 shares a frame then: those that lead there go, of the one whose frame stays, too; those of page 3, and those that lead to others, stay.
	got, _ := impl.PageJoin(alikeHost(ledHost(), 1, 4))
	for guest, frames := range [][]int{{0, 2}, {3, 5}} {
		want := []impl.Shade{{}, {}, {}, {Has: true, Page: 2, Frame: frames[0], Write: true}, {}, {Has: true, Page: 4, Frame: frames[1], Write: true}}
		if !slices.Equal(got.Guests[guest].Shades, want) {
			t.Errorf("guest %d has the shades %v", guest, got.Guests[guest].Shades)
		}
	}
	// A page of the other guest with the same number that is in neither frame keeps its shades.
	got, _ = impl.PageJoin(alikeHost(ledHost(), 1, 5))
	if s := got.Guests[1].Shades; s[4] != (impl.Shade{Has: true, Page: 3, Frame: 4, Write: true}) || s[0] != (impl.Shade{Has: true, Page: 3, Frame: 4}) || s[5] != (impl.Shade{}) {
		t.Errorf("guest 1 has the shades %v", s)
	}
}

func TestP45AsManyJoinsAsThereAreFrames(t *testing.T) {
	hosts := pageHosts()
	for frame := range impl.FrameMax {
		// All frames have the same, and a page of its own is in each.
		all := alikeHost(packedHost(frame, 0), 0, 1, 2, 3, 4, 5, 6, 7)
		hosts = append(hosts, all)
	}
	most := 0
	for _, h := range hosts {
		got, count := h, 0
		for range impl.FrameMax {
			var ok bool
			if got, ok = impl.PageJoin(got); ok {
				count++
			}
			wantMemory(t, "PageJoins", got, h)
		}
		again, ok := impl.PageJoin(got)
		if ok || len(twinFrames(got)) > 0 {
			t.Fatalf("behind all PageJoins of %v there is one more: %v", h, again)
		}
		wantHost(t, "one more PageJoin", again, got)
		most = max(most, count)
	}
	if most != impl.FrameMax-1 {
		t.Errorf("at most %d frames were joined", most)
	}
}

func TestP51PageOwnBehindPageJoin(t *testing.T) {
	for _, h := range pageHosts() {
		joined, _ := impl.PageJoin(h)
		for _, p := range hostPages(h) {
			got := impl.PageOwn(joined, p.guest, p.page)
			wantMemory(t, "PageJoin, and PageOwn", got, h)
			if m := mapOf(got, p); !m.In || !m.Write || !slices.Equal(inFrame(got, m.Frame), []page{p}) {
				t.Fatalf("PageOwn of %v behind PageJoin of %v: %v", p, h, got)
			}
			if len(impl.HostFree(got)) > len(impl.HostFree(h))+1 {
				t.Fatalf("PageOwn of %v behind PageJoin of %v: %v are free", p, h, impl.HostFree(got))
			}
		}
	}
}

func TestP56WhereJoinedPagesAre(t *testing.T) {
	for _, h := range pageHosts() {
		got, _ := impl.PageJoin(h)
		for _, p := range hostPages(h) {
			was, is := mapOf(h, p), mapOf(got, p)
			if was.In != is.In || is.Frame > was.Frame || !slices.Equal(h.Frames[was.Frame], got.Frames[is.Frame]) {
				t.Fatalf("PageJoin(%v): %v was %v and is %v", h, p, was, is)
			}
			if is.Frame == was.Frame {
				continue
			}
			for _, beside := range inFrame(got, is.Frame) {
				if mapOf(got, beside).Write {
					t.Fatalf("PageJoin(%v): %v may be written beside %v", h, beside, p)
				}
			}
		}
		var moved []page
		if pairs := twinFrames(h); len(pairs) > 0 {
			moved = append(inFrame(h, pairs[0][0]), inFrame(h, pairs[0][1])...)
		}
		wantStill(t, "PageJoin", got, h, moved...)
		// The frame that is free then has what it had, and Hand stays.
		wantFrames(t, "PageJoin", got, h)
		if got.Hand != h.Hand {
			t.Fatalf("PageJoin(%v): Hand is %d", h, got.Hand)
		}
	}
}

func TestP46PageMove(t *testing.T) {
	for _, h := range pageHosts() {
		for frame := range impl.FrameMax {
			got, ok := impl.PageMove(h, frame)
			wantMemory(t, "PageMove", got, h)
			free := freeFrames(h)
			if ok != (len(free) > 0 && !slices.Contains(free, frame)) {
				t.Fatalf("PageMove(%v, %d) is %v, and %v were free", h, frame, ok, free)
			}
			if !ok {
				wantHost(t, "PageMove that is false", got, h)
				continue
			}
			if now := impl.HostFree(got); len(now) != len(free) || !slices.Contains(now, frame) {
				t.Fatalf("PageMove(%v, %d): %v were free, %v are", h, frame, free, now)
			}
		}
	}
}

func TestP46PageMoveAtTheEdges(t *testing.T) {
	for frame := range impl.FrameMax {
		// No page is in any frame; in the one frame; in all but one; in all of them.
		full := packedHost(frame, 0)
		one := full
		for _, p := range inFrame(full, frame) {
			one = pagedOut(one, p)
		}
		for other := range impl.FrameMax {
			empty, ok := impl.PageMove(twoOut(), other)
			wantHost(t, "PageMove without any page", empty, twoOut())
			if ok {
				t.Errorf("PageMove of frame %d is true, and no page is in", other)
			}
			still, ok := impl.PageMove(full, other)
			wantHost(t, "PageMove without a free frame", still, full)
			if ok {
				t.Errorf("PageMove of frame %d is true, and no frame is free", other)
			}
			got, ok := impl.PageMove(one, other)
			if ok != (other != frame) || ok && (!slices.Equal(impl.HostFree(got), []int{other}) || len(inFrame(got, frame)) != len(inFrame(one, other))) {
				t.Errorf("PageMove of frame %d with just %d free is %v: %v", other, frame, ok, got)
			}
		}
		got, ok := impl.PageMove(oneFrame(frame), frame)
		to := 0
		if frame == 0 {
			to = 1
		}
		if !ok || len(inFrame(got, to)) != 2*impl.PageMax {
			t.Errorf("PageMove of all pages from frame %d: %v", frame, got)
		}
		wantMemory(t, "PageMove of all pages", got, oneFrame(frame))
	}
}

func TestP46ShadesThatPageMoveForgets(t *testing.T) {
	for _, h := range append(pageHosts(), ledHost()) {
		for frame := range impl.FrameMax {
			got, ok := impl.PageMove(h, frame)
			var gone []page
			if ok {
				gone = inFrame(h, frame)
			}
			wantShades(t, "PageMove", got, h, gone...)
		}
	}
	got, _ := impl.PageMove(ledHost(), 1)
	if !slices.Equal(got.Guests[0].Shades, []impl.Shade{{}, {}, {}, {Has: true, Page: 2, Frame: 0, Write: true}, {}, {Has: true, Page: 4, Frame: 2, Write: true}}) {
		t.Errorf("guest 0 has the shades %v", got.Guests[0].Shades)
	}
	if !slices.Equal(got.Guests[1].Shades, ledHost().Guests[1].Shades) {
		t.Errorf("guest 1 has the shades %v", got.Guests[1].Shades)
	}
}

func TestP52MovedTwice(t *testing.T) {
	moves := 0
	for _, h := range pageHosts() {
		for frame := range impl.FrameMax {
			once, ok := impl.PageMove(h, frame)
			if !ok {
				continue
			}
			to, then := freeFrames(h)[0], freeFrames(once)[0]
			twice, ok := impl.PageMove(once, to)
			wantMemory(t, "PageMove twice", twice, h)
			if !ok || !slices.Equal(inFrame(twice, then), inFrame(h, frame)) {
				t.Fatalf("PageMove twice, of frame %d of %v: %v", frame, h, twice)
			}
			moves++
		}
	}
	if moves < 100 {
		t.Errorf("%d moves", moves)
	}
}

func TestP57WhereMovedPagesAre(t *testing.T) {
	for _, h := range pageHosts() {
		for frame := range impl.FrameMax {
			got, ok := impl.PageMove(h, frame)
			if !ok {
				continue
			}
			to := freeFrames(h)[0]
			for _, p := range inFrame(h, frame) {
				if mapOf(got, p) != (impl.Map{In: true, Frame: to, Write: mapOf(h, p).Write}) {
					t.Fatalf("PageMove(%v, %d): %v is %v", h, frame, p, mapOf(got, p))
				}
			}
			if !slices.Equal(got.Frames[to], h.Frames[frame]) || got.Hand != h.Hand {
				t.Fatalf("PageMove(%v, %d): %v", h, frame, got)
			}
			wantStill(t, "PageMove", got, h, inFrame(h, frame)...)
			// What was moved stays in the frame that is free then, too.
			wantFrames(t, "PageMove", got, h, to)
		}
	}
}

func TestFramesThatThereAreNone(t *testing.T) {
	for _, h := range []impl.Host{oneOut(), twoOut(), fullHost(), ledHost(), bothAtHand(0), oneFrame(3), oneFrame(0)} {
		for _, frame := range noFrames() {
			got, ok := impl.PageMove(h, frame)
			wantNoHost(t, "PageMove of no frame", got, ok)
		}
		for _, frame := range []int{0, impl.FrameMax - 1} {
			if got, _ := impl.PageMove(h, frame); !impl.HostOk(got) {
				t.Errorf("PageMove of frame %d of %v is %v", frame, h, got)
			}
		}
	}
}

func TestJoinsAndMovesOfHostsThatAreNotOk(t *testing.T) {
	for _, w := range wrongHosts() {
		got, ok := impl.PageJoin(w.h)
		wantNoHost(t, "PageJoin: "+w.what, got, ok)
		for frame := -1; frame <= impl.FrameMax; frame++ {
			got, ok := impl.PageMove(w.h, frame)
			wantNoHost(t, "PageMove: "+w.what, got, ok)
		}
	}
}
