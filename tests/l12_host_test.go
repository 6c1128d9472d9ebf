package tests

import (
	"math"
	"slices"
	"testing"

	"loop.example/casket/impl"
)

func TestHostLimits(t *testing.T) {
	if impl.FrameMax != 8 || impl.GuestMax != 2 {
		t.Errorf("FrameMax %d, GuestMax %d", impl.FrameMax, impl.GuestMax)
	}
}

func TestP32HostNew(t *testing.T) {
	for guests := 1; guests <= impl.GuestMax; guests++ {
		h, ok := impl.HostNew(guests)
		wantLoaded(t, "HostNew", h, ok, slices.Repeat([][][]int{evenMem(impl.PageMax, 0)}, guests)...)
		if !impl.HostOk(h) || !slices.Equal(impl.HostFree(h), []int{0, 1, 2, 3, 4, 5, 6, 7}) {
			t.Errorf("HostNew(%d) is %v: HostOk %v, HostFree %v", guests, h, impl.HostOk(h), impl.HostFree(h))
		}
		for guest := range guests {
			if mem := impl.HostSee(h, guest); !sameMem(mem, evenMem(impl.PageMax, 0)) {
				t.Errorf("guest %d of HostNew(%d) has %v", guest, guests, mem)
			}
		}
		if loaded, ok := impl.HostLoad(evenMem(guests*impl.PageMax, 0)); !ok || !sameHost(loaded, h) {
			t.Errorf("HostLoad of noughts is %v, and HostNew(%d) %v", loaded, guests, h)
		}
	}
}

func TestP32HostNewOfOtherNumbers(t *testing.T) {
	// The last ones are one guest, or two, if their pages are counted and bits are lost.
	for _, guests := range []int{
		-1, 0, impl.GuestMax + 1, impl.GuestMax + 2, -2, 6, 12, 256 + 1, 1<<16 + 2, 1 << 32, 1<<32 + 1, 1<<62 + 1,
		math.MaxInt, math.MinInt, math.MinInt + 1, math.MinInt + 2,
	} {
		h, ok := impl.HostNew(guests)
		wantNoHost(t, "HostNew of no guests, or too many", h, ok)
	}
}

func TestP33HostLoadOfOneGuest(t *testing.T) {
	for _, mem := range guestMems() {
		h, ok := impl.HostLoad(mem)
		wantLoaded(t, "HostLoad", h, ok, mem)
		if !impl.HostOk(h) || !sameMem(impl.HostSee(h, 0), mem) || len(impl.HostSee(h, 1)) != 0 {
			t.Fatalf("of HostLoad(%v) one sees %v, and %v", mem, impl.HostSee(h, 0), impl.HostSee(h, 1))
		}
	}
}

func TestP33HostLoadOfTwoGuests(t *testing.T) {
	mems := guestMems()
	for i, first := range mems {
		second := mems[(i*37+5)%len(mems)]
		h, ok := impl.HostLoad(slices.Concat(first, second))
		wantLoaded(t, "HostLoad", h, ok, first, second)
		if !impl.HostOk(h) || !sameMem(impl.HostSee(h, 0), first) || !sameMem(impl.HostSee(h, 1), second) || len(impl.HostSee(h, 2)) != 0 {
			t.Fatalf("of HostLoad of %v and %v one sees %v and %v", first, second, impl.HostSee(h, 0), impl.HostSee(h, 1))
		}
		if len(impl.HostFree(h)) != impl.FrameMax {
			t.Fatalf("of HostLoad of %v and %v just %v are free", first, second, impl.HostFree(h))
		}
	}
}

func TestP39HostLoadByNumbersOfPages(t *testing.T) {
	for pages := range 4*impl.PageMax + 1 {
		for _, mem := range [][][]int{evenMem(pages, 0), evenMem(pages, impl.WordMax), mixedMem(pages, 3)} {
			h, ok := impl.HostLoad(mem)
			switch pages {
			case 6:
				wantLoaded(t, "HostLoad of one guest", h, ok, mem)
			case 12:
				wantLoaded(t, "HostLoad of two guests", h, ok, mem[:6], mem[6:])
			default:
				wantNoHost(t, "HostLoad of other than whole guests", h, ok)
			}
		}
	}
	h, ok := impl.HostLoad(nil)
	wantNoHost(t, "HostLoad of nothing", h, ok)
	h, ok = impl.HostLoad(evenMem(1000*impl.PageMax, 0))
	wantNoHost(t, "HostLoad of many guests", h, ok)
}

func TestP39HostLoadWithoutAPage(t *testing.T) {
	for _, pages := range []int{impl.PageMax, 2 * impl.PageMax} {
		for gone := range pages {
			h, ok := impl.HostLoad(slices.Delete(mixedMem(pages, gone), gone, gone+1))
			wantNoHost(t, "HostLoad without a page", h, ok)
		}
	}
}

func TestP39HostLoadOfPagesThatAreNotOk(t *testing.T) {
	for _, wrong := range wrongPages() {
		for _, pages := range []int{impl.PageMax, 2 * impl.PageMax} {
			for at := range pages {
				mem := mixedMem(pages, at)
				mem[at] = wrong
				h, ok := impl.HostLoad(mem)
				wantNoHost(t, "HostLoad of a wrong page", h, ok)
			}
		}
	}
	for _, mem := range wrongMems() {
		h, ok := impl.HostLoad(mem)
		wantNoHost(t, "HostLoad of wrong memory", h, ok)
	}
}

func TestP40HostLoadOfFlatWrite(t *testing.T) {
	for _, seed := range []int{0, 4} {
		first, second := mixedMem(impl.PageMax, seed), mixedMem(impl.PageMax, seed+9)
		for _, at := range places(impl.PageMax) {
			for _, word := range []int{0, 6, impl.WordMax, impl.WordMax + 1} {
				changed, _ := impl.FlatWrite(first, at.page, at.off, word)
				one, okOne := impl.HostLoad(changed)
				two, okTwo := impl.HostLoad(slices.Concat(second, changed))
				if !okOne || !okTwo || !sameMem(impl.HostSee(one, 0), changed) || !sameMem(impl.HostSee(two, 1), changed) || !sameMem(impl.HostSee(two, 0), second) {
					t.Fatalf("HostLoad of FlatWrite of %d at %v of %v: %v, %v", word, at, first, one, two)
				}
			}
		}
	}
}

func TestP35HostSee(t *testing.T) {
	for _, h := range okHosts() {
		for guest := range h.Guests {
			got := impl.HostSee(h, guest)
			if want := seenMem(h, guest); !sameMem(got, want) || !impl.MemOk(got) || len(got) != impl.PageMax {
				t.Fatalf("HostSee(%v, %d) is %v, and has to be %v", h, guest, got, want)
			}
		}
	}
}

func TestP35APageThatIsIn(t *testing.T) {
	for _, p := range hostPages(twoOut()) {
		for frame := range impl.FrameMax {
			for _, write := range []bool{false, true} {
				h := bring(twoOut(), p, frame, write)
				want := [][][]int{mixedMem(impl.PageMax, 1), mixedMem(impl.PageMax, 6)}
				want[p.guest][p.page] = twoOut().Frames[frame]
				for guest := range want {
					if got := impl.HostSee(h, guest); !sameMem(got, want[guest]) {
						t.Errorf("with %v in frame %d guest %d has %v, and has to have %v", p, frame, guest, got, want[guest])
					}
				}
			}
		}
	}
}

func TestP35PagesThatShareAFrame(t *testing.T) {
	for frame := range impl.FrameMax {
		h := oneFrame(frame)
		want := slices.Repeat([][]int{h.Frames[frame]}, impl.PageMax)
		for guest := range impl.GuestMax {
			if got := impl.HostSee(h, guest); !sameMem(got, want) {
				t.Errorf("with all in frame %d guest %d has %v, and has to have %v", frame, guest, got, want)
			}
		}
	}
}

func TestP36HostFree(t *testing.T) {
	full := 0
	for _, h := range okHosts() {
		got := impl.HostFree(h)
		if want := freeFrames(h); !slices.Equal(got, want) {
			t.Fatalf("HostFree(%v) is %v, and has to be %v", h, got, want)
		}
		for i := 1; i < len(got); i++ {
			if got[i-1] >= got[i] {
				t.Fatalf("HostFree(%v) is %v", h, got)
			}
		}
		if len(got) == 0 {
			full++
		}
	}
	if full == 0 {
		t.Error("no host is without a free frame")
	}
}

func TestP36FreeFramesOfKnownHosts(t *testing.T) {
	pair := bring(bring(twoOut(), page{0, 5}, 0, false), page{1, 0}, 0, false)
	cases := []struct {
		h    impl.Host
		want []int
	}{
		{oneOut(), []int{0, 1, 2, 3, 4, 5, 6, 7}},
		{twoOut(), []int{0, 1, 2, 3, 4, 5, 6, 7}},
		{bring(oneOut(), page{0, 2}, 0, true), []int{1, 2, 3, 4, 5, 6, 7}},
		{bring(twoOut(), page{1, 2}, 7, false), []int{0, 1, 2, 3, 4, 5, 6}},
		{pair, []int{1, 2, 3, 4, 5, 6, 7}},
		{bring(pair, page{1, 3}, 4, true), []int{1, 2, 3, 5, 6, 7}},
		{oneFrame(3), []int{0, 1, 2, 4, 5, 6, 7}},
		{fullHost(), nil},
	}
	for _, c := range cases {
		if got := impl.HostFree(c.h); !slices.Equal(got, c.want) {
			t.Errorf("HostFree(%v) is %v, and has to be %v", c.h, got, c.want)
		}
	}
}

func TestP37FramesThatAreNotFree(t *testing.T) {
	for _, h := range okHosts() {
		in := 0
		for _, p := range hostPages(h) {
			if h.Guests[p.guest].Maps[p.page].In {
				in++
			}
		}
		used := impl.FrameMax - len(impl.HostFree(h))
		if used > in || used == 0 && in > 0 {
			t.Fatalf("of %v %d pages are in, and %d frames are not free", h, in, used)
		}
	}
}

func TestP38HostSeeOfNoGuest(t *testing.T) {
	for _, h := range okHosts()[:60] {
		for _, guest := range noGuestNumbers(len(h.Guests)) {
			if got := impl.HostSee(h, guest); len(got) != 0 {
				t.Fatalf("HostSee(%v, %d) is %v, and has to be nothing", h, guest, got)
			}
		}
	}
}

func TestP38ShadesAreNotSeen(t *testing.T) {
	changed := 0
	for _, h := range okHosts() {
		for _, p := range hostPages(h) {
			other := shaded(h, p, impl.Shade{})
			if m := h.Guests[p.guest].Maps[impl.TabLow]; m.In {
				other = shaded(h, p, impl.Shade{Has: true, Page: impl.TabLow, Frame: m.Frame})
			}
			if !sameHost(other, h) {
				changed++
			}
			for guest := range h.Guests {
				if got := impl.HostSee(other, guest); len(got) != impl.PageMax || !sameMem(got, impl.HostSee(h, guest)) {
					t.Fatalf("with another shade of %v of %v guest %d has %v", p, h, guest, got)
				}
			}
			if !slices.Equal(impl.HostFree(other), impl.HostFree(h)) {
				t.Fatalf("with another shade of %v of %v %v are free", p, h, impl.HostFree(other))
			}
		}
	}
	if changed == 0 {
		t.Error("no shade was changed")
	}
}

func TestNothingIsSeenOfAHostThatIsNotOk(t *testing.T) {
	for _, w := range wrongHosts() {
		for guest := -1; guest <= impl.GuestMax; guest++ {
			if got := impl.HostSee(w.h, guest); len(got) != 0 {
				t.Errorf("%s: HostSee of %d is %v", w.what, guest, got)
			}
		}
		if got := impl.HostFree(w.h); len(got) != 0 {
			t.Errorf("%s: HostFree is %v", w.what, got)
		}
	}
}
