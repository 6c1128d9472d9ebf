package tests

import (
	"slices"
	"testing"

	"loop.example/casket/impl"
)

func (d *dice) order(count int) []int {
	var list []int
	for i := range count {
		list = slices.Insert(list, d.roll(i+1), i)
	}
	return list
}

// packedHost is an ok host of two guests of which just so many frames are free; each other one has a page, or more.
func packedHost(seed, free int) impl.Host {
	d := &dice{uint64(seed)*6151 + 3}
	h := outHost(d.mem(impl.PageMax), d.mem(impl.PageMax))
	h.Frames, h.Hand = d.mem(impl.FrameMax), d.roll(impl.FrameMax)
	used := d.order(impl.FrameMax)[free:]
	for i, at := range d.order(2 * impl.PageMax) {
		p := page{at / impl.PageMax, at % impl.PageMax}
		if i < len(used) {
			h = bring(h, p, used[i], false)
		} else if len(used) > 0 && d.coin() {
			h = bring(h, p, used[d.roll(len(used))], false)
		}
	}
	return withRights(h, d)
}

// twinHost is a packed host whose frames, free or not, have but a few pages among them.
func twinHost(seed, free int) impl.Host {
	h := packedHost(seed, free)
	d := &dice{uint64(seed)*31 + 9}
	few := d.mem(1 + d.roll(impl.FrameMax))
	for frame := range h.Frames {
		h.Frames[frame] = slices.Clone(few[d.roll(len(few))])
	}
	return h
}

// pageHosts are ok hosts with each number of free frames, with frames that have the same and without.
func pageHosts() []impl.Host {
	hosts := append(okHosts()[:120], newHost(1), newHost(2))
	for free := range impl.FrameMax + 1 {
		for seed := range 10 {
			hosts = append(hosts, packedHost(seed, free), twinHost(seed, free))
		}
	}
	return hosts
}

func newHost(guests int) impl.Host {
	h, _ := impl.HostNew(guests)
	return h
}

// mapOf is where a page is.
func mapOf(h impl.Host, p page) impl.Map {
	return h.Guests[p.guest].Maps[p.page]
}

// shadesTo are the pages of the guest's own guest whose shades lead to that page.
func shadesTo(h impl.Host, p page) []int {
	var from []int
	for at, s := range h.Guests[p.guest].Shades {
		if s.Has && s.Page == p.page {
			from = append(from, at)
		}
	}
	return from
}

// forget takes all shades away that lead to one of these pages.
func forget(h impl.Host, pages ...page) {
	for _, p := range pages {
		for _, from := range shadesTo(h, p) {
			h.Guests[p.guest].Shades[from] = impl.Shade{}
		}
	}
}

// pagedOut, pagedIn, pageOwned, pageJoined and pageMoved are what the program has to answer, of an ok host and a page or frame that there is.
func pagedOut(h impl.Host, p page) impl.Host {
	made := copyHost(h)
	if m := mapOf(h, p); m.In {
		made.Guests[p.guest].Disk[p.page] = slices.Clone(h.Frames[m.Frame])
		made.Guests[p.guest].Maps[p.page] = impl.Map{}
		forget(made, p)
	}
	return made
}

func pagedIn(h impl.Host, p page) impl.Host {
	made := copyHost(h)
	if mapOf(h, p).In {
		return made
	}
	frame := h.Hand
	if free := freeFrames(h); len(free) > 0 {
		frame = free[0]
	} else {
		for _, other := range inFrame(h, frame) {
			made = pagedOut(made, other)
		}
		made.Hand++
		if made.Hand == impl.FrameMax {
			made.Hand = 0
		}
	}
	made.Frames[frame] = slices.Clone(h.Guests[p.guest].Disk[p.page])
	return bring(made, p, frame, true)
}

func pageOwned(h impl.Host, p page) impl.Host {
	made := pagedIn(h, p)
	m := mapOf(made, p)
	switch {
	case m.Write:
	case len(inFrame(made, m.Frame)) == 1:
		made.Guests[p.guest].Maps[p.page].Write = true
	default:
		made = pagedIn(pagedOut(made, p), p)
	}
	return made
}

// twinFrames are all pairs of frames that are used and have the same, the first ones first.
func twinFrames(h impl.Host) [][2]int {
	var pairs [][2]int
	for low := range impl.FrameMax {
		for high := low + 1; high < impl.FrameMax; high++ {
			if len(inFrame(h, low)) > 0 && len(inFrame(h, high)) > 0 && slices.Equal(h.Frames[low], h.Frames[high]) {
				pairs = append(pairs, [2]int{low, high})
			}
		}
	}
	return pairs
}

func pageJoined(h impl.Host) (impl.Host, bool) {
	made := copyHost(h)
	pairs := twinFrames(h)
	if len(pairs) == 0 {
		return made, false
	}
	low, high := pairs[0][0], pairs[0][1]
	for _, p := range append(inFrame(h, low), inFrame(h, high)...) {
		made.Guests[p.guest].Maps[p.page] = impl.Map{In: true, Frame: low}
		forget(made, p)
	}
	return made, true
}

func pageMoved(h impl.Host, frame int) (impl.Host, bool) {
	made := copyHost(h)
	free, pages := freeFrames(h), inFrame(h, frame)
	if len(free) == 0 || len(pages) == 0 {
		return made, false
	}
	made.Frames[free[0]] = slices.Clone(h.Frames[frame])
	for _, p := range pages {
		made.Guests[p.guest].Maps[p.page].Frame = free[0]
	}
	forget(made, pages...)
	return made, true
}

// wantHost fails if a host is not the one that it has to be.
func wantHost(t *testing.T, what string, got, want impl.Host) {
	t.Helper()
	if !sameHost(got, want) {
		t.Fatalf("%s is\n%v, and has to be\n%v", what, got, want)
	}
}

// wantMemory fails if a host is not ok, or any guest has other memory than it had.
func wantMemory(t *testing.T, what string, got, was impl.Host) {
	t.Helper()
	if !impl.HostOk(got) || len(got.Guests) != len(was.Guests) {
		t.Fatalf("%s of\n%v is\n%v, which is not ok", what, was, got)
	}
	for guest := range was.Guests {
		if mem := impl.HostSee(got, guest); !sameMem(mem, seenMem(was, guest)) {
			t.Fatalf("%s of\n%v is\n%v: guest %d has %v", what, was, got, guest, mem)
		}
	}
}

// wantStill fails if any page beside these is elsewhere, may be written otherwise, or is otherwise on disk.
func wantStill(t *testing.T, what string, got, was impl.Host, but ...page) {
	t.Helper()
	for _, p := range hostPages(was) {
		if slices.Contains(but, p) {
			continue
		}
		if mapOf(got, p) != mapOf(was, p) || !slices.Equal(got.Guests[p.guest].Disk[p.page], was.Guests[p.guest].Disk[p.page]) {
			t.Fatalf("%s of\n%v is\n%v: %v is another", what, was, got, p)
		}
	}
}

// wantShades fails if other shades are gone than those that lead to these pages, or one is another.
func wantShades(t *testing.T, what string, got, was impl.Host, gone ...page) {
	t.Helper()
	for _, p := range hostPages(was) {
		want := was.Guests[p.guest].Shades[p.page]
		if want.Has && slices.Contains(gone, page{p.guest, want.Page}) {
			want = impl.Shade{}
		}
		if s := got.Guests[p.guest].Shades[p.page]; s != want {
			t.Fatalf("%s of\n%v is\n%v: the shade of %v is %v, and has to be %v", what, was, got, p, s, want)
		}
	}
}

// wantFrames fails if any frame beside these has other than it had.
func wantFrames(t *testing.T, what string, got, was impl.Host, but ...int) {
	t.Helper()
	for frame := range was.Frames {
		if !slices.Contains(but, frame) && !slices.Equal(got.Frames[frame], was.Frames[frame]) {
			t.Fatalf("%s of\n%v is\n%v: frame %d has another page", what, was, got, frame)
		}
	}
}
