package tests

import (
	"math"
	"slices"
	"testing"

	"loop.example/casket/impl"
)

// page is a page of a guest.
type page struct{ guest, page int }

// outHost is a host whose guests have such memory, each page being out; its frames have what nobody has.
func outHost(mems ...[][]int) impl.Host {
	h := impl.Host{Frames: evenMem(impl.FrameMax, 0)}
	for i, at := range places(impl.FrameMax) {
		h.Frames[at.page][at.off] = (i*5 + 17) % (impl.WordMax + 1)
	}
	for _, mem := range mems {
		h.Guests = append(h.Guests, impl.Guest{
			Maps:   make([]impl.Map, impl.PageMax),
			Disk:   copyMem(mem),
			Shades: make([]impl.Shade, impl.PageMax),
		})
	}
	return h
}

// oneOut and twoOut are hosts of one guest, and of two, each page being out.
func oneOut() impl.Host {
	return outHost(mixedMem(impl.PageMax, 1))
}

func twoOut() impl.Host {
	return outHost(mixedMem(impl.PageMax, 1), mixedMem(impl.PageMax, 6))
}

// bring is the host with that page in that frame, whatever is there.
func bring(h impl.Host, p page, frame int, write bool) impl.Host {
	made := copyHost(h)
	made.Guests[p.guest].Maps[p.page] = impl.Map{In: true, Frame: frame, Write: write}
	made.Guests[p.guest].Disk[p.page] = make([]int, impl.OffMax)
	return made
}

// shaded is the host with that shade of a page of the guest's own guest.
func shaded(h impl.Host, p page, s impl.Shade) impl.Host {
	made := copyHost(h)
	made.Guests[p.guest].Shades[p.page] = s
	return made
}

// fullHost has no free frame: pages that may be written and may not, one frame that three pages share, pages out, and shades of all kinds.
func fullHost() impl.Host {
	h := twoOut()
	h = bring(h, page{0, 0}, 7, true)
	h = bring(h, page{0, 1}, 0, false)
	h = bring(h, page{0, 2}, 3, false)
	h = bring(h, page{0, 3}, 1, true)
	h = bring(h, page{0, 4}, 3, false)
	h = bring(h, page{1, 0}, 4, false)
	h = bring(h, page{1, 2}, 6, true)
	h = bring(h, page{1, 3}, 3, false)
	h = bring(h, page{1, 4}, 2, false)
	h = bring(h, page{1, 5}, 5, true)
	h = shaded(h, page{0, 0}, impl.Shade{Has: true, Page: 2, Frame: 3})
	h = shaded(h, page{0, 1}, impl.Shade{Has: true, Page: 3, Frame: 1, Write: true})
	h = shaded(h, page{0, 5}, impl.Shade{Has: true, Page: 3, Frame: 1})
	h = shaded(h, page{1, 2}, impl.Shade{Has: true, Page: 5, Frame: 5, Write: true})
	h = shaded(h, page{1, 3}, impl.Shade{Has: true, Page: 4, Frame: 2})
	h.Hand = 5
	return h
}

// oneFrame is a host of which each page of each guest is in that one frame.
func oneFrame(frame int) impl.Host {
	h := twoOut()
	for guest := range h.Guests {
		for at := range impl.PageMax {
			h = bring(h, page{guest, at}, frame, false)
		}
	}
	return h
}

// dice are numbers that look thrown and are the same in each run.
type dice struct{ state uint64 }

func (d *dice) roll(sides int) int {
	d.state = d.state*6364136223846793005 + 1442695040888963407
	return int((d.state >> 33) % uint64(sides))
}

func (d *dice) coin() bool {
	return d.roll(2) == 1
}

func (d *dice) mem(pages int) [][]int {
	mem := evenMem(pages, 0)
	for _, at := range places(pages) {
		mem[at.page][at.off] = d.roll(impl.WordMax + 1)
	}
	return mem
}

// thrownHost is an ok host of all that may be, thrown by dice.
func thrownHost(seed int) impl.Host {
	d := &dice{uint64(seed)*7919 + 1}
	mems := [][][]int{d.mem(impl.PageMax), d.mem(impl.PageMax)}
	h := outHost(mems[:1+d.roll(impl.GuestMax)]...)
	h.Frames, h.Hand = d.mem(impl.FrameMax), d.roll(impl.FrameMax)
	few, out := 1+d.roll(impl.FrameMax), d.roll(4)
	for _, p := range hostPages(h) {
		if d.roll(4) >= out {
			h = bring(h, p, d.roll(few), false)
		}
	}
	return withRights(h, d)
}

// withRights is the host with thrown shades, and what may be written.
func withRights(h impl.Host, d *dice) impl.Host {
	for _, p := range hostPages(h) {
		m := &h.Guests[p.guest].Maps[p.page]
		m.Write = m.In && len(inFrame(h, m.Frame)) == 1 && d.coin()
	}
	for _, p := range hostPages(h) {
		to := impl.TabLow + d.roll(impl.PageMax-impl.TabLow)
		if m := h.Guests[p.guest].Maps[to]; m.In && d.coin() {
			h = shaded(h, p, impl.Shade{Has: true, Page: to, Frame: m.Frame, Write: m.Write && d.coin()})
		}
	}
	return h
}

// okHosts are hosts that are ok: at the edges, and thrown.
func okHosts() []impl.Host {
	hosts := []impl.Host{oneOut(), twoOut(), fullHost(), oneFrame(0), oneFrame(impl.FrameMax - 1)}
	for _, p := range hostPages(twoOut()) {
		for _, frame := range []int{0, impl.FrameMax - 1} {
			hosts = append(hosts, bring(twoOut(), p, frame, false), bring(twoOut(), p, frame, true))
		}
	}
	for seed := range 400 {
		hosts = append(hosts, thrownHost(seed))
	}
	return hosts
}

// hostPages are all pages of all guests of a host.
func hostPages(h impl.Host) []page {
	var pages []page
	for guest := range h.Guests {
		for at := range impl.PageMax {
			pages = append(pages, page{guest, at})
		}
	}
	return pages
}

// inFrame are the pages that are in that frame.
func inFrame(h impl.Host, frame int) []page {
	var pages []page
	for _, p := range hostPages(h) {
		if m := h.Guests[p.guest].Maps[p.page]; m.In && m.Frame == frame {
			pages = append(pages, p)
		}
	}
	return pages
}

// freeFrames is what HostFree has to answer of an ok host.
func freeFrames(h impl.Host) []int {
	var frames []int
	for frame := range impl.FrameMax {
		if len(inFrame(h, frame)) == 0 {
			frames = append(frames, frame)
		}
	}
	return frames
}

// seenMem is what HostSee has to answer of an ok host's guest.
func seenMem(h impl.Host, guest int) [][]int {
	var mem [][]int
	for at, m := range h.Guests[guest].Maps {
		if m.In {
			mem = append(mem, slices.Clone(h.Frames[m.Frame]))
		} else {
			mem = append(mem, slices.Clone(h.Guests[guest].Disk[at]))
		}
	}
	return mem
}

// sameHost holds hosts against each other as the document does: the empty list and nil are one.
func sameHost(a, b impl.Host) bool {
	return a.Hand == b.Hand && sameMem(a.Frames, b.Frames) && slices.EqualFunc(a.Guests, b.Guests, sameGuest)
}

func sameGuest(a, b impl.Guest) bool {
	return slices.Equal(a.Maps, b.Maps) && sameMem(a.Disk, b.Disk) && slices.Equal(a.Shades, b.Shades)
}

func copyHost(h impl.Host) impl.Host {
	made := impl.Host{Frames: copyMem(h.Frames), Hand: h.Hand}
	for _, g := range h.Guests {
		made.Guests = append(made.Guests, impl.Guest{Maps: slices.Clone(g.Maps), Disk: copyMem(g.Disk), Shades: slices.Clone(g.Shades)})
	}
	return made
}

// noGuestNumbers are numbers of guests that a host of so many does not have; the ones far out are one that it has, if bits are lost.
func noGuestNumbers(guests int) []int {
	return []int{
		-1, -2, -guests, guests, guests + 1, 256, 256 + 1, 1 << 16, 1 << 32, 1<<32 + 1, -1 << 32, math.MaxInt32, math.MinInt32,
		math.MaxInt, math.MaxInt - 1, math.MinInt, math.MinInt + 1,
	}
}

// noFrames are frames that there are none of.
func noFrames() []int {
	return []int{
		-1, -2, -impl.FrameMax, impl.FrameMax, impl.FrameMax + 1, 2 * impl.FrameMax, 256, 256 + 3, 1<<16 + 3, 1 << 32, 1<<32 + 3, -1 << 32,
		math.MaxInt32, math.MinInt32, math.MaxInt, math.MinInt, math.MinInt + 3,
	}
}

// wantNoHost fails if an answer that has to be nothing and false is something, or true.
func wantNoHost(t *testing.T, what string, got impl.Host, ok bool) {
	t.Helper()
	if !sameHost(got, impl.Host{}) || ok {
		t.Errorf("%s is %v, %v, and has to be nothing and false", what, got, ok)
	}
}

// wantLoaded fails if a host is not the one into which that memory was just loaded.
func wantLoaded(t *testing.T, what string, got impl.Host, ok bool, mems ...[][]int) {
	t.Helper()
	want := outHost(mems...)
	want.Frames = evenMem(impl.FrameMax, 0)
	if !ok || !sameHost(got, want) {
		t.Errorf("%s is %v, %v, and has to be %v", what, got, ok, want)
	}
}
