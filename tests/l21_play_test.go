package tests

import (
	"fmt"
	"slices"
	"testing"

	"loop.example/casket/impl"
)

// wantPlayed fails if a play does not come to that.
func wantPlayed(t *testing.T, what string, acts []impl.Act, got, want played) {
	t.Helper()
	wantTold(t, what, acts, got.told, want.told)
	wantHost(t, what, got.h, want.h)
}

// wantNoPlay fails if a play is not nothing, and none.
func wantNoPlay(t *testing.T, what string, got played) {
	t.Helper()
	if len(got.told) != 0 || !sameHost(got.h, impl.Host{}) {
		t.Fatalf("%s is %v, and has to be nothing, and none", what, got)
	}
}

func TestKnownPlay(t *testing.T) {
	// Both guests have page 2 given to the first page of their own guests; what they write there, they share, until one of both writes once more.
	given := impl.Entry{Has: true, Page: 2, Write: true}
	rows := []struct {
		act  impl.Act
		told int
	}{
		{actEntry(page{0, 0}, given), 0},
		{actForget(0), 0},
		{actEntry(page{1, 0}, given), 0},
		{actForget(1), 0},
		{actWriteIn(page{0, 0}, 3, 9), 0},
		{actWriteIn(page{1, 0}, 3, 9), 0},
		{actJoin(), 0},
		{actJoin(), 0},
		{actJoin(), impl.GotBad},
		{actWriteIn(page{0, 0}, 3, 10), 9},
		{actReadIn(page{1, 0}, 3), 9},
		{actRead(page{0, 2}, 3), 10},
		{actOut(page{1, 2}), 0},
		{actMove(7), impl.GotBad},
		{actCarry(), 0},
		{actReadIn(page{1, 0}, 3), 9},
		{actReadIn(page{0, 0}, 3), 10},
		{actReadIn(page{0, 1}, 3), impl.GotFault},
		{actEntry(page{0, 1}, impl.Entry{Has: true, Page: 2}), 0},
		{actForget(0), 0},
		{actReadIn(page{0, 1}, 3), 10},
		{actWriteIn(page{0, 1}, 3, 11), impl.GotDenied},
		{actRead(page{2, 2}, 3), impl.GotBad},
		{actWrite(page{1, 5}, 0, 63), 0},
		{actWrite(page{1, 5}, 0, 1), 63},
	}
	var acts []impl.Act
	var told []int
	for _, row := range rows {
		acts, told = append(acts, row.act), append(told, row.told)
	}
	got := hostPlay(2, acts)
	wantTold(t, "HostPlay", acts, got.told, told)
	wantTidy(t, "a known play", true, acts...)
	wantSeen(t, "a known play", got.h, 0, [][]int{{6, 5, 0, 0}, {0, 0, 0, 0}, {0, 0, 0, 10}, {0, 0, 0, 0}, {0, 0, 0, 0}, {0, 0, 0, 0}})
	wantSeen(t, "a known play", got.h, 1, [][]int{{6, 0, 0, 0}, {0, 0, 0, 0}, {0, 0, 0, 9}, {0, 0, 0, 0}, {0, 0, 0, 0}, {1, 0, 0, 0}})
	for guest := range 2 {
		flat, mem := impl.FlatPlay(acts, guest)
		wantTold(t, "FlatPlay", acts, flat, toldTo(acts, told, guest))
		wantSeen(t, "FlatPlay", got.h, guest, mem)
	}
}

func TestThrownPlaysAreOfAllKinds(t *testing.T) {
	// What the tests of promises lean on: that there is something of each kind in the plays.
	seen := map[string]int{}
	for _, thrown := range []func(int) []impl.Act{anyActs, tidyActs} {
		eachPlay(thrown, func(_, guests int, acts []impl.Act) {
			h := newHost(guests)
			for _, a := range acts {
				got := hostDo(h, a)
				seen[fmt.Sprint("kind ", a.Kind, " tells ", min(got.told, 0))]++
				if a.Kind == impl.ActReadIn && shadeOfAct(h, a).Has {
					seen["read by a shade"]++
				}
				if a.Kind == impl.ActWriteIn && shadeOfAct(h, a).Write {
					seen["written by a shade"]++
				}
				if got.h.Hand != h.Hand && a.Kind != impl.ActCarry {
					seen["no frame was free"]++
				}
				if a.Kind == impl.ActWrite && isWord(got.told) && len(inFrame(h, mapOf(h, page{a.Guest, a.Page}).Frame)) > 1 {
					seen["written where pages shared a frame"]++
				}
				h = got.h
			}
		})
	}
	for kind := impl.ActRead; kind <= impl.ActCarry; kind++ {
		for _, told := range []int{0, impl.GotBad} {
			what := fmt.Sprint("kind ", kind, " tells ", told)
			if seen[what] < 10 && (kind != impl.ActCarry || told == 0) {
				t.Errorf("%s: just %d", what, seen[what])
			}
		}
	}
	for _, what := range []string{"kind 3 tells -1", "kind 4 tells -1", "kind 4 tells -2", "read by a shade", "written by a shade", "no frame was free", "written where pages shared a frame"} {
		if seen[what] < 40 {
			t.Errorf("%s: just %d", what, seen[what])
		}
	}
}

// shadeOfAct is the shade of the page that an act names, if the host has such.
func shadeOfAct(h impl.Host, a impl.Act) impl.Shade {
	if !there(h, a) {
		return impl.Shade{}
	}
	return shadeOf(h, page{a.Guest, a.Page})
}

func TestP81HostPlay(t *testing.T) {
	for _, thrown := range []func(int) []impl.Act{anyActs, tidyActs} {
		eachPlay(thrown, func(_, guests int, acts []impl.Act) {
			for count := range acts {
				if count%13 == 0 || count > impl.PlayMax-3 {
					wantPlayed(t, "HostPlay", acts[:count], hostPlay(guests, acts[:count]), goOn(newHost(guests), acts[:count]))
				}
			}
			want := played{h: newHost(guests)}
			for _, a := range acts {
				next := doneOf(want.h, a)
				want.h, want.told = next.h, append(want.told, next.told)
			}
			wantPlayed(t, "HostPlay", acts, hostPlay(guests, acts), want)
		})
	}
}

func TestHostPlayOfAsManyGuestsAsThereMayBe(t *testing.T) {
	acts := []impl.Act{actWrite(page{0, 2}, 0, 5), actWrite(page{1, 3}, 0, 6), actRead(page{1, 3}, 0), actCarry()}
	one := hostPlay(1, acts)
	wantTold(t, "one guest", acts, one.told, []int{0, impl.GotBad, impl.GotBad, 0})
	two := hostPlay(2, acts)
	wantTold(t, "two guests", acts, two.told, []int{0, 0, 6, 0})
	if len(one.h.Guests) != 1 || len(two.h.Guests) != 2 {
		t.Errorf("of one guest, and of two, there are %d, and %d", len(one.h.Guests), len(two.h.Guests))
	}
	for _, guests := range []int{0, 3, -1, -2, 256 + 1, 1<<32 + 1, 1 << 62, -1 << 63} {
		wantNoPlay(t, fmt.Sprint("HostPlay of ", guests, " guests"), hostPlay(guests, acts))
		wantNoPlay(t, fmt.Sprint("HostPlay of ", guests, " guests, and no acts"), hostPlay(guests, nil))
	}
}

func TestHostPlayOfAsManyActsAsThereMayBe(t *testing.T) {
	for guests := 1; guests <= impl.GuestMax; guests++ {
		for _, none := range [][]impl.Act{nil, {}} {
			wantPlayed(t, "no acts", none, hostPlay(guests, none), played{h: newHost(guests)})
		}
		for _, a := range []impl.Act{actWrite(page{0, 2}, 0, 5), actJoin(), {}} {
			for _, count := range []int{1, impl.PlayMax - 1, impl.PlayMax} {
				acts := slices.Repeat([]impl.Act{a}, count)
				wantPlayed(t, fmt.Sprint(count, " acts"), acts, hostPlay(guests, acts), goOn(newHost(guests), acts))
			}
			for _, count := range []int{impl.PlayMax + 1, impl.PlayMax + 2, 1000} {
				wantNoPlay(t, fmt.Sprint(count, " acts"), hostPlay(guests, slices.Repeat([]impl.Act{a}, count)))
			}
		}
	}
}

func TestWhatCameIsToldInTheOrderOfTheActs(t *testing.T) {
	// Each act tells another number: the one that the act ahead of it wrote.
	var acts []impl.Act
	var told []int
	for i := range impl.PlayMax {
		acts, told = append(acts, actWrite(page{0, 3}, 1, i+1)), append(told, i)
	}
	wantTold(t, "HostPlay", acts, hostPlay(2, acts).told, told)
	flat, _ := impl.FlatPlay(acts, 0)
	wantTold(t, "FlatPlay", acts, flat, told)
}

// wantSame fails if anything else comes of any guest's acts than it would alone.
func wantSame(t *testing.T, what string, acts []impl.Act, got played) {
	t.Helper()
	if len(got.told) != len(acts) || !impl.HostOk(got.h) {
		t.Fatalf("%s: %v comes of\n%v", what, got, acts)
	}
	for guest := range got.h.Guests {
		told, mem := aloneAll(acts, guest)
		wantTold(t, fmt.Sprint(what, ": guest ", guest), acts, toldTo(acts, got.told, guest), told)
		wantSeen(t, what, got.h, guest, mem)
	}
}

func TestP82TidyActsAreAsIfAlone(t *testing.T) {
	eachPlay(tidyActs, func(_, guests int, acts []impl.Act) {
		got := hostPlay(guests, acts)
		for guest := range guests {
			told, mem := impl.FlatPlay(acts, guest)
			wantTold(t, fmt.Sprint("guest ", guest), acts, toldTo(acts, got.told, guest), told)
			wantSeen(t, "a tidy play", got.h, guest, mem)
		}
		wantSame(t, "a tidy play", acts, got)
	})
}

func TestP82TidyByChance(t *testing.T) {
	tidy := 0
	for seed := range 4000 {
		acts := thrownActs(seed, guestsOf(seed), 12)
		if impl.ActsTidy(acts) {
			tidy++
			wantSame(t, "acts that are tidy", acts, hostPlay(guestsOf(seed), acts))
		}
	}
	if tidy < 150 {
		t.Errorf("just %d were tidy", tidy)
	}
}

func TestP82LongPlays(t *testing.T) {
	// From hosts of all kinds, and as long as it takes until no frame is free, again and again.
	for seed := range 20 {
		acts := tidied(thrownActs(seed+500, 2, 400))
		wantSame(t, "a long play", acts, goOn(newHost(2), acts))
		// Without shades a host in the midst of a play may go on, too.
		h := impl.HostForget(impl.HostForget(tabled(packedHost(seed, seed%(impl.FrameMax+1)), seed), 0), 1)
		got := goOn(h, acts)
		for guest := range 2 {
			mem := seenMem(h, guest)
			for i, a := range acts {
				if ofGuest(a, guest) {
					alone := aloneOf(mem, a)
					if mem = alone.mem; got.told[i] != alone.told {
						t.Fatalf("act %d, %v, of a long play of\n%v tells %d, and has to tell %d", i, a, h, got.told[i], alone.told)
					}
				}
			}
			wantSeen(t, "a long play", got.h, guest, mem)
		}
	}
}

func TestP83WithoutTheHosts(t *testing.T) {
	gone := 0
	eachPlay(tidyActs, func(_, guests int, acts []impl.Act) {
		plain := withoutHost(acts)
		gone += len(acts) - len(plain)
		got, want := hostPlay(guests, acts), hostPlay(guests, plain)
		for guest := range guests {
			wantUnseen(t, "without the host's acts", guest, acts, got, plain, want)
		}
	})
	if gone < 500 {
		t.Errorf("just %d acts of the host", gone)
	}
}

func TestP84OneGuestAlone(t *testing.T) {
	eachPlay(tidyActs, func(_, guests int, acts []impl.Act) {
		got := hostPlay(guests, acts)
		for guest := range guests {
			plain := actsOf(acts, guest)
			wantUnseen(t, "one guest alone", guest, acts, got, plain, hostPlay(guests, plain))
			// The host's may stay, too.
			among := kept(acts, func(a impl.Act) bool { return !ofGuests(a) || a.Guest == guest })
			wantUnseen(t, "one guest, and the host", guest, acts, got, among, hostPlay(guests, among))
		}
	})
}

func TestP86CutAndCarriedBetween(t *testing.T) {
	for seed := range 40 {
		guests, acts := guestsOf(seed), tidyActs(seed)
		whole := hostPlay(guests, acts)
		for cut := range len(acts) + 1 {
			first := hostPlay(guests, acts[:cut])
			wantTidy(t, "a part", true, acts[:cut]...)
			second := goOn(impl.HostCarry(first.h), acts[cut:])
			got := played{second.h, append(first.told, second.told...)}
			for guest := range guests {
				wantUnseen(t, fmt.Sprint("cut at ", cut), guest, acts, got, acts, whole)
			}
		}
	}
}

// behindEach are the acts with one more behind each; which one hangs on its place.
func behindEach(acts []impl.Act, more func(i int) impl.Act) []impl.Act {
	var all []impl.Act
	for i, a := range acts {
		all = append(all, a, more(i))
	}
	return all
}

// wantUnseenBehindEach fails if it is seen that the host does something behind each act.
func wantUnseenBehindEach(t *testing.T, what string, more func(i int) impl.Act) {
	t.Helper()
	done := 0
	eachPlay(tidyActs, func(_, guests int, acts []impl.Act) {
		want := hostPlay(guests, acts)
		all := behindEach(acts, more)
		got := goOn(newHost(guests), all)
		half := all[:impl.PlayMax]
		wantPlayed(t, what, half, hostPlay(guests, half), goOn(newHost(guests), half))
		for guest := range guests {
			wantUnseen(t, what, guest, all, got, acts, want)
		}
		for i, told := range got.told {
			if i%2 == 1 && told == 0 {
				done++
			}
		}
	})
	if done < 300 {
		t.Errorf("%s: just %d times anything came of it", what, done)
	}
}

func TestP91PagesSharedBehindEachAct(t *testing.T) {
	wantUnseenBehindEach(t, "ActJoin behind each", func(int) impl.Act { return actJoin() })
}

func TestP91AllThatCanBeSharedBehindEachAct(t *testing.T) {
	joins := 0
	eachPlay(tidyActs, func(_, guests int, acts []impl.Act) {
		want := hostPlay(guests, acts)
		got := played{h: newHost(guests)}
		for _, a := range acts {
			next := hostDo(got.h, a)
			got.h, got.told = next.h, append(got.told, next.told)
			for range impl.FrameMax {
				join := hostDo(got.h, actJoin())
				if got.h = join.h; join.told == 0 {
					joins++
				}
			}
		}
		for guest := range guests {
			wantUnseen(t, "all that can be shared", guest, acts, got, acts, want)
		}
	})
	if joins < 400 {
		t.Errorf("just %d joins", joins)
	}
}

func TestP92APageTakenOutBehindEachAct(t *testing.T) {
	for guest := range impl.GuestMax {
		for _, at := range []int{0, 1, 2, impl.PageMax - 1} {
			wantUnseenBehindEach(t, "ActOut behind each", func(int) impl.Act { return actOut(page{guest, at}) })
		}
	}
	wantUnseenBehindEach(t, "ActOut of each in turn", func(i int) impl.Act { return actOut(page{i % 2, i / 2 % impl.PageMax}) })
}

func TestP93AFrameMovedBehindEachAct(t *testing.T) {
	wantUnseenBehindEach(t, "ActMove of each in turn", func(i int) impl.Act { return actMove(i % impl.FrameMax) })
	wantUnseenBehindEach(t, "ActMove of the first two", func(i int) impl.Act { return actMove(i % 2) })
}

func TestP94CarriedBehindEachAct(t *testing.T) {
	wantUnseenBehindEach(t, "ActCarry behind each", func(int) impl.Act { return actCarry() })
}

func TestAllOfItBehindEachAct(t *testing.T) {
	wantUnseenBehindEach(t, "all kinds in turn", func(i int) impl.Act {
		return []impl.Act{actJoin(), actMove(i % impl.FrameMax), actOut(page{i % 2, 2 + i%3}), actJoin(), actJoin(), actCarry()}[i%6]
	})
}

func TestP95AnyActsForgottenBehindEach(t *testing.T) {
	untidy := 0
	eachPlay(anyActs, func(_, guests int, acts []impl.Act) {
		if !impl.ActsTidy(acts) {
			untidy++
		}
		for _, count := range []int{impl.PlayMax / 2, impl.PlayMax} {
			own := acts[:count]
			var all []impl.Act
			var places []int
			for _, a := range own {
				places = append(places, len(all))
				if all = append(all, a); ofGuests(a) {
					all = append(all, actForget(a.Guest))
				}
			}
			got := goOn(newHost(guests), all)
			if len(all) <= impl.PlayMax {
				wantPlayed(t, "forgotten behind each", all, hostPlay(guests, all), got)
			}
			var told []int
			for _, at := range places {
				told = append(told, got.told[at])
			}
			for guest := range guests {
				flat, mem := impl.FlatPlay(own, guest)
				wantTold(t, "forgotten behind each", all, toldTo(own, told, guest), flat)
				wantSeen(t, "forgotten behind each", got.h, guest, mem)
			}
		}
	})
	if untidy < manyPlays/2 {
		t.Errorf("just %d were not tidy", untidy)
	}
}

func TestP96WhatIsToldOfEachAct(t *testing.T) {
	for _, thrown := range []func(int) []impl.Act{anyActs, tidyActs} {
		eachPlay(thrown, func(_, guests int, acts []impl.Act) {
			got := hostPlay(guests, acts)
			if len(got.told) != len(acts) {
				t.Fatalf("of %d acts %d numbers are told", len(acts), len(got.told))
			}
			for i, a := range acts {
				told := got.told[i]
				wrong := slices.Contains([]int{impl.GotFault, impl.GotDenied, impl.GotBad}, told)
				if ofGuests(a) && !isWord(told) && !wrong || !ofGuests(a) && told != 0 && told != impl.GotBad {
					t.Errorf("of %v comes %d", a, told)
				}
				if a.Kind == impl.ActForget && told != 0 && told != impl.GotBad || (a.Kind == impl.ActRead || a.Kind == impl.ActWrite) && told < 0 && told != impl.GotBad {
					t.Errorf("of %v comes %d", a, told)
				}
			}
			for guest := -1; guest <= guests; guest++ {
				if told, mem := impl.FlatPlay(acts, guest); len(told) != len(actsOf(acts, guest)) || !soundMem(mem) {
					t.Errorf("of the acts of guest %d come %v, and %v", guest, told, mem)
				}
			}
		})
	}
}

func TestP97TheOtherGuestsMemoryIsNoughts(t *testing.T) {
	for seed := range manyPlays {
		acts := thrownActs(seed, 2, 150)
		for guest := range 2 {
			some := kept(acts, func(a impl.Act) bool { return !ofGuests(a) || a.Guest == guest })
			wantSeen(t, "another's acts", hostPlay(2, some[:min(len(some), impl.PlayMax)]).h, 1-guest, evenMem(impl.PageMax, 0))
			wantSeen(t, "many acts of another", goOn(newHost(2), some).h, 1-guest, evenMem(impl.PageMax, 0))
		}
	}
}

// wantReadBehind fails if anything but that word is read at a place behind some acts.
func wantReadBehind(t *testing.T, what string, h impl.Host, p page, off, word int, acts ...impl.Act) {
	t.Helper()
	got := hostDo(goOn(h, acts).h, actRead(p, off))
	if got.told != word {
		t.Fatalf("%s: behind %v of\n%v %d is read at place %d of %v, and not %d", what, acts, h, got.told, off, p, word)
	}
}

func TestP98WhatIsWrittenIsRead(t *testing.T) {
	eachPlay(anyActs, func(seed, guests int, acts []impl.Act) {
		h := hostPlay(guests, acts[:seed%impl.PlayMax]).h
		for _, p := range hostPages(h) {
			off, word := someOff(seed, p), (seed+9*p.page)%(impl.WordMax+1)
			wrote := hostDo(h, actWrite(p, off, word)).h
			wantReadBehind(t, "ActWrite", wrote, p, off, word)
			wantReadBehind(t, "ActWrite, and ActOut", wrote, p, off, word, actOut(p))
			wantReadBehind(t, "ActWrite, and ActJoin", wrote, p, off, word, actJoin())
			wantReadBehind(t, "ActWrite, and ActCarry", wrote, p, off, word, actCarry())
			wantReadBehind(t, "ActWrite, and all of that", wrote, p, off, word, actJoin(), actMove(0), actOut(p), actJoin(), actCarry(), actJoin())
		}
	})
}

func TestP102AWordWrittenInByANewEntry(t *testing.T) {
	between := [][]impl.Act{nil, {actJoin(), actJoin()}, {actMove(0), actMove(3)}, {actCarry()}, {actJoin(), actMove(1), actJoin(), actJoin()}}
	eachPlay(anyActs, func(seed, guests int, acts []impl.Act) {
		h := hostPlay(guests, acts).h
		for i, p := range hostPages(h) {
			to := page{p.guest, impl.TabLow + (seed+i)%(impl.PageMax-impl.TabLow)}
			off, word := someOff(seed, p), (seed+i)%(impl.WordMax+1)
			for j, some := range append(between, []impl.Act{actOut(to), actOut(page{p.guest, 0}), actOut(page{p.guest, 1})}) {
				made := slices.Concat([]impl.Act{actEntry(p, impl.Entry{Has: true, Page: to.page, Write: true})}, some, []impl.Act{actForget(p.guest)}, between[(i+j)%len(between)])
				ready := goOn(h, made).h
				was := impl.HostSee(ready, p.guest)
				wrote := hostDo(ready, actWriteIn(p, off, word))
				if wrote.told != was[to.page][off] {
					t.Fatalf("%d is told, and %d was there", wrote.told, was[to.page][off])
				}
				wantChanged(t, "a word written in", wrote.h, ready, p.guest, changedMem(was, place{to.page, off}, word))
				wantReadBehind(t, "a word written in", wrote.h, to, off, word, some...)
			}
		}
	})
}
