package tests

import (
	"fmt"
	"math"
	"slices"
	"testing"

	"loop.example/casket/impl"
)

// wrongHost is a host that is not ok, and why.
type wrongHost struct {
	what string
	h    impl.Host
}

// wrongHosts are hosts that are wrong in one thing alone.
func wrongHosts() []wrongHost {
	hosts := slices.Concat(wrongCounts(), wrongGuestCounts(), wrongSheets(), wrongMaps(), sharedWrites(), wrongShades())
	for _, hand := range noFrames() {
		h := fullHost()
		h.Hand = hand
		hosts = append(hosts, wrongHost{fmt.Sprint("Hand ", hand), h})
	}
	return hosts
}

func wrongCounts() []wrongHost {
	hosts := []wrongHost{{"nothing", impl.Host{}}}
	for _, frames := range []int{0, 1, impl.FrameMax - 1, impl.FrameMax + 1, 2 * impl.FrameMax} {
		h := twoOut()
		h.Frames = mixedMem(frames, 2)
		hosts = append(hosts, wrongHost{fmt.Sprint("frames: ", frames), h})
	}
	for _, guests := range []int{0, impl.GuestMax + 1, impl.GuestMax + 2, 50} {
		h := outHost(slices.Repeat([][][]int{mixedMem(impl.PageMax, 4)}, guests)...)
		hosts = append(hosts, wrongHost{fmt.Sprint("guests: ", guests), h})
	}
	// A guest too many, though those that may be are ok.
	h := fullHost()
	h.Guests = append(h.Guests, impl.Guest{})
	return append(hosts, wrongHost{"a guest that has nothing", h})
}

// wrongGuestCounts are hosts one guest of which has too few or too many of one thing.
func wrongGuestCounts() []wrongHost {
	var hosts []wrongHost
	for guest := range impl.GuestMax {
		for _, count := range []int{0, 1, impl.PageMax - 1, impl.PageMax + 1, 2 * impl.PageMax} {
			maps, shades, disk := twoOut(), twoOut(), twoOut()
			maps.Guests[guest].Maps = make([]impl.Map, count)
			shades.Guests[guest].Shades = make([]impl.Shade, count)
			disk.Guests[guest].Disk = mixedMem(count, 2)
			hosts = append(hosts,
				wrongHost{fmt.Sprint("maps of guest ", guest, ": ", count), maps},
				wrongHost{fmt.Sprint("shades of guest ", guest, ": ", count), shades},
				wrongHost{fmt.Sprint("pages on disk of guest ", guest, ": ", count), disk})
		}
	}
	return hosts
}

// wrongSheets are hosts with one page that is not ok, in a frame, free or not, and on disk.
func wrongSheets() []wrongHost {
	var hosts []wrongHost
	for _, wrong := range wrongPages() {
		for _, frame := range []int{0, 3, impl.FrameMax - 1} {
			for _, h := range []impl.Host{oneOut(), twoOut(), fullHost()} {
				h.Frames[frame] = slices.Clone(wrong)
				hosts = append(hosts, wrongHost{fmt.Sprint("frame ", frame, " has ", wrong), h})
			}
		}
		for _, p := range hostPages(twoOut()) {
			h := twoOut()
			h.Guests[p.guest].Disk[p.page] = slices.Clone(wrong)
			hosts = append(hosts, wrongHost{fmt.Sprint("on disk ", p, " has ", wrong), h})
		}
	}
	// Noughts, but one too many or too few, of a page that is in.
	for _, count := range []int{0, impl.OffMax - 1, impl.OffMax + 1} {
		h := bring(twoOut(), page{1, 2}, 4, true)
		h.Guests[1].Disk[2] = make([]int, count)
		hosts = append(hosts, wrongHost{fmt.Sprint("noughts on disk: ", count), h})
	}
	return hosts
}

// wrongMaps are hosts with one map that is none, or of a page that is on disk as well.
func wrongMaps() []wrongHost {
	var hosts []wrongHost
	for _, p := range hostPages(twoOut()) {
		for _, m := range []impl.Map{{Frame: 1}, {Frame: impl.FrameMax - 1}, {Frame: impl.FrameMax}, {Frame: -1}, {Frame: math.MinInt}, {Write: true}, {Frame: 2, Write: true}} {
			h := twoOut()
			h.Guests[p.guest].Maps[p.page] = m
			hosts = append(hosts, wrongHost{fmt.Sprint("out, and map ", m, " of ", p), h})
			// Noughts on disk do not make it one that is in.
			h = copyHost(h)
			h.Guests[p.guest].Disk[p.page] = make([]int, impl.OffMax)
			hosts = append(hosts, wrongHost{fmt.Sprint("out, with noughts, and map ", m, " of ", p), h})
		}
		for _, frame := range noFrames() {
			for _, write := range []bool{false, true} {
				hosts = append(hosts, wrongHost{fmt.Sprint(p, " in frame ", frame), bring(twoOut(), p, frame, write)})
			}
		}
		for off := range impl.OffMax {
			for _, write := range []bool{false, true} {
				h := bring(twoOut(), p, 4, write)
				h.Guests[p.guest].Disk[p.page][off] = 1
				hosts = append(hosts, wrongHost{fmt.Sprint(p, " in, and on disk at ", off), h})
			}
		}
		// Nor may what is on disk be just what the frame has.
		h := bring(twoOut(), p, 4, true)
		h.Guests[p.guest].Disk[p.page] = slices.Clone(h.Frames[4])
		hosts = append(hosts, wrongHost{fmt.Sprint(p, " in, and on disk the same"), h})
	}
	return hosts
}

// sharedWrites are hosts with a page that may be written and shares its frame, with one of its guest's, or of the other one's.
func sharedWrites() []wrongHost {
	var hosts []wrongHost
	for _, p := range hostPages(twoOut()) {
		for _, other := range hostPages(twoOut()) {
			if p == other {
				continue
			}
			for _, write := range []bool{false, true} {
				h := bring(bring(twoOut(), p, 5, true), other, 5, write)
				hosts = append(hosts, wrongHost{fmt.Sprint(p, " may be written, and ", other, " is there, too: ", write), h})
			}
		}
		h := oneFrame(2)
		h.Guests[p.guest].Maps[p.page].Write = true
		hosts = append(hosts, wrongHost{fmt.Sprint(p, " may be written, and all are there"), h})
	}
	return hosts
}

// wrongShades are hosts with one shade that is none, or leads where it may not.
func wrongShades() []wrongHost {
	// Guest 0 has all pages in but page 5, each in the frame of its number; just page 4 may be written. Of guest 1 page 5 is in, so that its map could be taken for the one that is lacking.
	base := twoOut()
	for at := range impl.PageMax - 1 {
		base = bring(base, page{0, at}, at, at == 4)
	}
	base = bring(base, page{1, 5}, 6, true)
	shades := []impl.Shade{
		{Page: impl.TabLow}, {Frame: 2}, {Write: true}, {Page: 3, Frame: 3}, {Page: 4, Frame: 4, Write: true}, {Page: -1}, {Frame: -1},
		{Has: true},
		{Has: true, Page: impl.TabLow - 1, Frame: 1},
		{Has: true, Page: impl.PageMax - 1},
		{Has: true, Page: impl.PageMax - 1, Frame: 6},
		{Has: true, Page: impl.PageMax},
		{Has: true, Page: 3, Frame: 2},
		{Has: true, Page: 3, Frame: 4},
		{Has: true, Page: 3, Frame: 6},
		{Has: true, Page: 4, Frame: 0, Write: true},
		{Has: true, Page: 4, Frame: impl.FrameMax - 1, Write: true},
		{Has: true, Page: impl.TabLow, Frame: 2, Write: true},
		{Has: true, Page: 3, Frame: 3, Write: true},
	}
	for _, at := range farPages() {
		shades = append(shades, impl.Shade{Has: true, Page: at}, impl.Shade{Has: true, Page: at, Frame: 3})
	}
	for _, frame := range noFrames() {
		shades = append(shades, impl.Shade{Has: true, Page: 4, Frame: frame}, impl.Shade{Has: true, Page: 4, Frame: frame, Write: true})
	}
	var hosts []wrongHost
	for _, s := range shades {
		for at := range impl.PageMax {
			hosts = append(hosts, wrongHost{fmt.Sprint("shade ", s, " of page ", at), shaded(base, page{0, at}, s)})
		}
	}
	return hosts
}

func TestHostOk(t *testing.T) {
	for _, h := range okHosts() {
		if !impl.HostOk(h) {
			t.Errorf("HostOk(%v) is false", h)
		}
	}
	for _, w := range wrongHosts() {
		if impl.HostOk(w.h) {
			t.Errorf("%s: HostOk(%v) is true", w.what, w.h)
		}
	}
}

func TestHostOkByGuests(t *testing.T) {
	for guests := range impl.GuestMax + 3 {
		h := outHost(slices.Repeat([][][]int{mixedMem(impl.PageMax, 2)}, guests)...)
		if want := guests == 1 || guests == 2; impl.HostOk(h) != want {
			t.Errorf("HostOk of %d guests is %v", guests, !want)
		}
	}
}

func TestHostOkByFrames(t *testing.T) {
	for _, frame := range append(noFrames(), 0, 1, impl.FrameMax-2, impl.FrameMax-1) {
		want := frame >= 0 && frame <= 7
		h := fullHost()
		h.Hand = frame
		if impl.HostOk(h) != want {
			t.Errorf("HostOk with Hand %d is %v", frame, !want)
		}
		for _, p := range hostPages(twoOut()) {
			for _, write := range []bool{false, true} {
				if impl.HostOk(bring(twoOut(), p, frame, write)) != want {
					t.Errorf("HostOk with %v in frame %d is %v", p, frame, !want)
				}
			}
		}
	}
}

func TestHostOkByPagesOfShades(t *testing.T) {
	// As far as there are frames, each page is in one of its own, and may be written: all of guest 0, and the last two of guest 1.
	h := twoOut()
	frame := 0
	for _, p := range hostPages(h) {
		if p.guest == 0 || p.page >= impl.PageMax-2 {
			h = bring(h, p, frame, true)
			frame++
		}
	}
	if !impl.HostOk(h) {
		t.Fatalf("HostOk(%v) is false", h)
	}
	for _, to := range []int{-1, 0, impl.TabLow - 1, impl.TabLow, impl.PageMax - 1, impl.PageMax} {
		for _, p := range hostPages(h) {
			s := impl.Shade{Has: true, Page: to}
			in := false
			if to >= 0 && to < impl.PageMax {
				s.Frame, in = h.Guests[p.guest].Maps[to].Frame, h.Guests[p.guest].Maps[to].In
			}
			for _, write := range []bool{false, true} {
				s.Write = write
				if want := in && to >= 2 && to <= 5; impl.HostOk(shaded(h, p, s)) != want {
					t.Errorf("HostOk with %v of %v is %v", s, p, !want)
				}
			}
		}
	}
}

func TestHostOkOfPagesInOneFrame(t *testing.T) {
	for frame := range impl.FrameMax {
		h := twoOut()
		for _, p := range hostPages(h) {
			h = bring(h, p, frame, false)
			if !impl.HostOk(h) {
				t.Fatalf("HostOk(%v) is false, as of all up to %v", h, p)
			}
		}
	}
	// One that may not be written may be alone, too.
	for _, p := range hostPages(twoOut()) {
		if !impl.HostOk(bring(twoOut(), p, 3, false)) || !impl.HostOk(bring(twoOut(), p, 3, true)) {
			t.Errorf("HostOk of %v alone in its frame is false", p)
		}
	}
}

func TestHostOkOfNoughtsOnDisk(t *testing.T) {
	// Noughts may be of a page that is out, and a frame may have them.
	h := outHost(evenMem(impl.PageMax, 0))
	h.Frames = evenMem(impl.FrameMax, 0)
	if !impl.HostOk(h) || !impl.HostOk(bring(h, page{0, 0}, 0, true)) {
		t.Error("HostOk of noughts is false")
	}
}

// soundCounts says whether there are as many of all as there have to be, and each page is ok.
func soundCounts(h impl.Host) bool {
	if len(h.Frames) != 8 || !impl.MemOk(h.Frames) || len(h.Guests) != 1 && len(h.Guests) != 2 || h.Hand < 0 || h.Hand > 7 {
		return false
	}
	for _, g := range h.Guests {
		if len(g.Maps) != 6 || len(g.Shades) != 6 || len(g.Disk) != 6 || !impl.MemOk(g.Disk) {
			return false
		}
	}
	return true
}

// soundHost is what HostOk has to answer.
func soundHost(h impl.Host) bool {
	if !soundCounts(h) {
		return false
	}
	for _, p := range hostPages(h) {
		g := h.Guests[p.guest]
		m, s := g.Maps[p.page], g.Shades[p.page]
		switch {
		case !m.In && m != impl.Map{}, m.In && (m.Frame < 0 || m.Frame > 7 || slices.Max(g.Disk[p.page]) > 0):
			return false
		case m.Write && !slices.Equal(inFrame(h, m.Frame), []page{p}):
			return false
		case !s.Has && s != impl.Shade{}, s.Has && (s.Page < 2 || s.Page > 5):
			return false
		case s.Has && (!g.Maps[s.Page].In || g.Maps[s.Page].Frame != s.Frame || s.Write && !g.Maps[s.Page].Write):
			return false
		}
	}
	return true
}

// otherMaps and otherShades are what may stand in place of one.
func otherMaps(m impl.Map) []impl.Map {
	maps := []impl.Map{{}, {In: !m.In, Frame: m.Frame, Write: m.Write}, {In: m.In, Frame: m.Frame, Write: !m.Write}}
	for frame := -1; frame <= impl.FrameMax; frame++ {
		maps = append(maps, impl.Map{In: m.In, Frame: frame, Write: m.Write}, impl.Map{In: true, Frame: frame, Write: true})
	}
	return maps
}

func otherShades(s impl.Shade) []impl.Shade {
	shades := []impl.Shade{
		{},
		{Has: !s.Has, Page: s.Page, Frame: s.Frame, Write: s.Write},
		{Has: s.Has, Page: s.Page, Frame: s.Frame, Write: !s.Write},
	}
	for at := -1; at <= impl.PageMax; at++ {
		for frame := -1; frame <= impl.FrameMax; frame++ {
			for _, write := range []bool{false, true} {
				shades = append(shades, impl.Shade{Has: true, Page: at, Frame: frame, Write: write})
			}
		}
	}
	return shades
}

// eachOther hands on each host that differs from this one in one map or one shade; it is changed back behind each.
func eachOther(h impl.Host, look func(impl.Host)) {
	h = copyHost(h)
	for _, p := range hostPages(h) {
		m, s := &h.Guests[p.guest].Maps[p.page], &h.Guests[p.guest].Shades[p.page]
		wasMap, wasShade := *m, *s
		for _, other := range otherMaps(wasMap) {
			*m = other
			look(h)
		}
		*m = wasMap
		for _, other := range otherShades(wasShade) {
			*s = other
			look(h)
		}
		*s = wasShade
	}
}

func TestHostOkWithOneMapOrShadeChanged(t *testing.T) {
	ok, not := 0, 0
	for _, h := range append(okHosts()[:60], okHosts()[300:]...) {
		eachOther(h, func(other impl.Host) {
			want := soundHost(other)
			if got := impl.HostOk(other); got != want {
				t.Fatalf("HostOk(%v) is %v", other, got)
			}
			if want {
				ok++
			} else {
				not++
			}
		})
	}
	if ok < 1000 || not < 1000 {
		t.Errorf("%d are ok, %d are not", ok, not)
	}
}

func TestP34NotShared(t *testing.T) {
	for _, h := range okHosts() {
		eachOther(h, func(other impl.Host) {
			if impl.HostOk(other) {
				checkNotShared(t, other)
			}
		})
	}
	for _, w := range wrongHosts() {
		if impl.HostOk(w.h) {
			checkNotShared(t, w.h)
		}
	}
}

// checkNotShared fails if a page that may be written shares its frame, or a shade leads elsewhere than to a page that is in.
func checkNotShared(t *testing.T, h impl.Host) {
	t.Helper()
	for _, p := range hostPages(h) {
		m, s := h.Guests[p.guest].Maps[p.page], h.Guests[p.guest].Shades[p.page]
		if m.Write && len(inFrame(h, m.Frame)) != 1 {
			t.Fatalf("HostOk(%v), and %v may be written and shares frame %d", h, p, m.Frame)
		}
		if !s.Has {
			continue
		}
		if to := h.Guests[p.guest].Maps[s.Page]; !to.In || to.Frame != s.Frame || s.Write && !to.Write {
			t.Fatalf("HostOk(%v), and the shade of %v is %v, its page's map %v", h, p, s, to)
		}
	}
}
