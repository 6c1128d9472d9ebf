package tests

import (
	"slices"
	"testing"

	"loop.example/casket/impl"
)

// steps are all that the host may do with pages, each with its page or frame: at the edges, and where there is none.
func steps() []func(impl.Host) impl.Host {
	join := func(h impl.Host) impl.Host {
		made, _ := impl.PageJoin(h)
		return made
	}
	all := []func(impl.Host) impl.Host{join}
	for frame := -1; frame <= impl.FrameMax; frame++ {
		all = append(all, func(h impl.Host) impl.Host {
			made, _ := impl.PageMove(h, frame)
			return made
		})
	}
	for guest := -1; guest <= impl.GuestMax; guest++ {
		for _, at := range []int{-1, 0, 2, impl.PageMax - 1, impl.PageMax} {
			for _, step := range []func(impl.Host, int, int) impl.Host{impl.PageIn, impl.PageOut, impl.PageOwn} {
				all = append(all, func(h impl.Host) impl.Host { return step(h, guest, at) })
			}
		}
	}
	return all
}

// stepHosts are hosts of all kinds, ok or not, few enough to try all steps with each.
func stepHosts() []impl.Host {
	hosts := []impl.Host{{}, oneOut(), twoOut(), fullHost(), ledHost(), alikeHost(ledHost(), 1, 4), bothAtHand(0), bothAtHand(impl.FrameMax - 1), oneFrame(4)}
	for free := range impl.FrameMax + 1 {
		hosts = append(hosts, packedHost(free, free), twinHost(free+5, free))
	}
	for i, w := range wrongHosts() {
		if i%60 == 0 {
			hosts = append(hosts, w.h)
		}
	}
	return hosts
}

func TestStepsChangeNoArgument(t *testing.T) {
	for _, given := range stepHosts() {
		h := roomyHost(given)
		was := wholeHost(h)
		for i, step := range steps() {
			scribbleHost(step(h))
			if !sameHost(wholeHost(h), was) {
				t.Fatalf("step %d, or a write into its answer, changed %v", i, given)
			}
		}
	}
}

func TestAnswersOfStepsAreNewMemory(t *testing.T) {
	for _, given := range stepHosts() {
		h := roomyHost(given)
		known := hostCells(h)
		for _, step := range steps() {
			first, second := step(h), step(h)
			wantApart(t, "a step", hostCells(first), known)
			wantApart(t, "a step once more", hostCells(second), append(hostCells(first), known...))
		}
	}
}

func TestAnswersOfStepsStay(t *testing.T) {
	for _, given := range stepHosts() {
		for i, step := range steps() {
			h := roomyHost(given)
			want := step(given)
			first, second := step(h), step(h)
			if !sameHost(first, want) {
				t.Fatalf("step %d: what is behind the ends of %v counts", i, given)
			}
			scribbleHost(first)
			scribbleHost(h)
			wantHost(t, "a step, with its argument written over,", second, want)
		}
	}
}

func TestStepsOfListsThatShareMemory(t *testing.T) {
	// All frames, and all on disk, are one page, and both guests have the same lists; so what is written into one of them would show in all others.
	words := []int{1, 2, 3, 4}
	g := impl.Guest{Maps: make([]impl.Map, impl.PageMax), Disk: slices.Repeat([][]int{words}, impl.PageMax), Shades: make([]impl.Shade, impl.PageMax)}
	alike := impl.Host{Frames: slices.Repeat([][]int{words}, impl.FrameMax), Guests: []impl.Guest{g, g}}
	for i, step := range steps() {
		got := step(alike)
		wantHost(t, "a step of lists that share memory", got, step(copyHost(alike)))
		wantApart(t, "a step of lists that share memory", hostCells(got), hostCells(alike))
		if !slices.Equal(words, []int{1, 2, 3, 4}) {
			t.Fatalf("step %d wrote into its argument", i)
		}
	}
}

func TestPagesThatSharedAreHandedOutApart(t *testing.T) {
	// All pages of one frame come to disk one by one: each has a list of its own.
	h := oneFrame(3)
	for _, p := range hostPages(h) {
		h = impl.PageOut(h, p.guest, p.page)
		wantApart(t, "PageOut of one that shared", hostCells(h), nil)
	}
	full := bothAtHand(2)
	wantApart(t, "PageIn that takes all out of a frame", hostCells(impl.PageIn(full, 0, 5)), hostCells(full))
}

func TestManySteps(t *testing.T) {
	// Each step of a long row is what the document says of the host behind the one ahead.
	for seed := range 12 {
		d := &dice{uint64(seed) + 77}
		h := twinHost(seed, d.roll(impl.FrameMax+1))
		first := copyHost(h)
		for range 200 {
			p := page{d.roll(len(h.Guests)), d.roll(impl.PageMax)}
			frame := d.roll(impl.FrameMax)
			var got, want impl.Host
			switch d.roll(5) {
			case 0:
				got, want = impl.PageIn(h, p.guest, p.page), pagedIn(h, p)
			case 1:
				got, want = impl.PageOut(h, p.guest, p.page), pagedOut(h, p)
			case 2:
				got, want = impl.PageOwn(h, p.guest, p.page), pageOwned(h, p)
			case 3:
				got, _ = impl.PageJoin(h)
				want, _ = pageJoined(h)
			default:
				got, _ = impl.PageMove(h, frame)
				want, _ = pageMoved(h, frame)
			}
			wantHost(t, "a step of many", got, want)
			wantMemory(t, "many steps", got, first)
			h = got
		}
	}
}
