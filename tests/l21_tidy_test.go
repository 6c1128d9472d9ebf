package tests

import (
	"math"
	"slices"
	"testing"

	"loop.example/casket/impl"
)

// tidyOf is what ActsTidy has to answer.
func tidyOf(acts []impl.Act) bool {
	for i, a := range acts {
		if a.Kind != impl.ActWrite || a.Page >= impl.TabLow {
			continue
		}
		if next := actsOf(acts[i+1:], a.Guest); len(next) > 0 && next[0].Kind != impl.ActForget {
			return false
		}
	}
	return true
}

// wantTidy fails if ActsTidy does not answer that.
func wantTidy(t *testing.T, what string, want bool, acts ...impl.Act) {
	t.Helper()
	if got := impl.ActsTidy(acts); got != want {
		t.Fatalf("%s: ActsTidy of\n%v is %v", what, acts, got)
	}
}

// tableWrite is a write to the table of that guest; anyRead is what is not tidy behind it.
func tableWrite(guest int) impl.Act {
	return actWrite(page{guest, 0}, 0, 6)
}

func anyRead(guest int) impl.Act {
	return actRead(page{guest, 4}, 0)
}

func TestActsTidyOfKnownActs(t *testing.T) {
	wantTidy(t, "no acts", true)
	wantTidy(t, "nil", true, []impl.Act(nil)...)
	for low := range impl.TabLow {
		write := actWrite(page{0, low}, 3, 1)
		wantTidy(t, "a write to a table alone", true, write)
		wantTidy(t, "a write to a table, and ActForget", true, write, actForget(0))
		wantTidy(t, "a write to a table, ActForget, and more", true, write, actForget(0), anyRead(0), actReadIn(page{0, 0}, 0))
		for _, next := range []impl.Act{anyRead(0), actWrite(page{0, 3}, 0, 1), write, actReadIn(page{0, 0}, 0), actWriteIn(page{0, 0}, 0, 1)} {
			wantTidy(t, "a write to a table, and another act", false, write, next)
			wantTidy(t, "a write to a table, another act, and ActForget", false, write, next, actForget(0))
			wantTidy(t, "ActForget ahead of a write to a table", false, actForget(0), write, next)
			wantTidy(t, "ActForget, and another act", true, write, actForget(0), next)
		}
	}
	above := actWrite(page{0, impl.TabLow}, 0, 6)
	wantTidy(t, "a write to the first page behind a table", true, above, anyRead(0))
	wantTidy(t, "a write to the last page", true, actWrite(page{0, impl.PageMax - 1}, 0, 6), anyRead(0))
	wantTidy(t, "a read of a table", true, actRead(page{0, 0}, 0), anyRead(0))
	wantTidy(t, "a second write that nothing follows", true, tableWrite(0), actForget(0), tableWrite(0))
	wantTidy(t, "a second write that is not forgotten", false, tableWrite(0), actForget(0), tableWrite(0), anyRead(0))
	wantTidy(t, "a first write that is not forgotten", false, tableWrite(0), anyRead(0), tableWrite(0), actForget(0))
}

func TestActsTidyOfOthersBetween(t *testing.T) {
	hosts := []impl.Act{actOut(page{0, 0}), actJoin(), actMove(0), actCarry(), {Kind: impl.ActJoin, Guest: 1}}
	others := []impl.Act{anyRead(1), actWrite(page{1, 3}, 0, 1), actReadIn(page{1, 0}, 0), actWriteIn(page{1, 0}, 0, 1), actForget(1)}
	none := []impl.Act{{}, {Kind: -1}, {Kind: impl.ActCarry + 1}, {Kind: math.MaxInt}, {Kind: math.MinInt}}
	for _, between := range slices.Concat(hosts, others, none) {
		wantTidy(t, "behind it no act of the guest's own", true, tableWrite(0), between)
		wantTidy(t, "another's act between", true, tableWrite(0), between, actForget(0))
		wantTidy(t, "another's act between, and one that is not ActForget", false, tableWrite(0), between, anyRead(0))
		wantTidy(t, "another's act between, and ActForget too late", false, tableWrite(0), between, anyRead(0), actForget(0))
		wantTidy(t, "another's act between, and ActForget behind it", false, tableWrite(0), between, between, anyRead(0), between)
	}
	// The other guest's ActForget is none of this one's.
	wantTidy(t, "each has its own ActForget", true, tableWrite(0), tableWrite(1), actForget(0), actForget(1), anyRead(0), anyRead(1))
	wantTidy(t, "one guest lacks ActForget", false, tableWrite(0), tableWrite(1), actForget(1), anyRead(1), anyRead(0))
	wantTidy(t, "the other guest lacks ActForget", false, tableWrite(0), tableWrite(1), actForget(0), anyRead(0), anyRead(1))
	wantTidy(t, "an act of the host that names the guest is not the guest's", true, tableWrite(1), actOut(page{1, 2}), actForget(1))
}

func TestActsTidyOfWritesThatAreNone(t *testing.T) {
	// A table leads to no page of itself, so what the guest's own guest writes never comes there.
	wantTidy(t, "a write to a table by the guest's own guest", true, actWriteIn(page{0, 0}, 0, 6), anyRead(0))
	wantTidy(t, "a write to a table by the guest's own guest, page 1", true, actWriteIn(page{0, 1}, 0, 6), actReadIn(page{0, 1}, 0))
	for _, kind := range []int{0, -1, impl.ActOut, impl.ActJoin, impl.ActMove, impl.ActCarry, impl.ActCarry + 1, impl.ActWrite + 1<<32, math.MaxInt, math.MinInt} {
		wantTidy(t, "an act of another kind", true, impl.Act{Kind: kind, Word: 6}, anyRead(0))
	}
}

func TestActsTidyOfWritesThatAreBad(t *testing.T) {
	// Of an act the page alone is asked for; whether anything comes of it is not.
	var bad []impl.Act
	for _, off := range []int{-1, impl.OffMax, math.MaxInt, math.MinInt} {
		bad = append(bad, actWrite(page{0, 1}, off, 6))
	}
	for _, word := range noWords() {
		bad = append(bad, actWrite(page{0, 0}, 0, word))
	}
	for _, guest := range noGuestNumbers(impl.GuestMax) {
		bad = append(bad, tableWrite(guest))
	}
	for _, below := range []int{-1, -2, math.MinInt} {
		bad = append(bad, actWrite(page{0, below}, 0, 6))
	}
	for _, a := range bad {
		wantTidy(t, "a bad write to a table", true, a)
		wantTidy(t, "a bad write to a table, and ActForget", true, a, actForget(a.Guest), anyRead(a.Guest))
		wantTidy(t, "a bad write to a table, and another act", false, a, anyRead(a.Guest))
		other := a.Guest ^ 1
		wantTidy(t, "a bad write to a table, and another guest's act", true, a, anyRead(other), actForget(a.Guest))
	}
	for _, above := range []int{impl.PageMax, impl.PageMax + 1, 1 << 32, math.MaxInt} {
		wantTidy(t, "a write to no page, above all", true, actWrite(page{0, above}, 0, 6), anyRead(0))
	}
	// A bad act behind it is an act of that guest, too.
	wantTidy(t, "a bad act behind it", false, tableWrite(0), actRead(page{0, impl.PageMax}, 0), actForget(0))
}

func TestActsTidyOfAllShortPlays(t *testing.T) {
	few := []impl.Act{
		tableWrite(0), actWrite(page{0, 1}, 1, 0), actWrite(page{0, impl.TabLow}, 0, 6), actForget(0), anyRead(0), actWriteIn(page{0, 0}, 0, 6),
		tableWrite(1), actForget(1), anyRead(1), actOut(page{0, 0}), actCarry(), {},
	}
	tidy := map[bool]int{}
	rows := [][]impl.Act{nil}
	for range 4 {
		var longer [][]impl.Act
		for _, row := range rows {
			for _, a := range few {
				longer = append(longer, append(slices.Clone(row), a))
			}
		}
		rows = longer
		for _, row := range rows {
			want := tidyOf(row)
			wantTidy(t, "a short play", want, row...)
			tidy[want]++
		}
	}
	if tidy[false] < 1000 || tidy[true] < 1000 {
		t.Errorf("tidy and not there are %v", tidy)
	}
}

func TestActsTidyOfThrownPlays(t *testing.T) {
	tidy := map[bool]int{}
	for seed := range 2000 {
		for _, count := range []int{3, 6, 10, 25} {
			acts := thrownActs(seed, guestsOf(seed), count)
			want := tidyOf(acts)
			wantTidy(t, "a thrown play", want, acts...)
			tidy[want]++
		}
	}
	if tidy[false] < 1000 || tidy[true] < 1000 {
		t.Errorf("tidy and not there are %v", tidy)
	}
}

func TestActsTidyOfMoreThanPlayMax(t *testing.T) {
	for _, count := range []int{impl.PlayMax - 2, impl.PlayMax - 1, impl.PlayMax, 5000} {
		rest := slices.Repeat([]impl.Act{anyRead(1)}, count)
		wantTidy(t, "a long play", true, append([]impl.Act{tableWrite(0)}, rest...)...)
		wantTidy(t, "a long play with ActForget in the end", true, append(append([]impl.Act{tableWrite(0)}, rest...), actForget(0))...)
		wantTidy(t, "a long play with another act in the end", false, append(append([]impl.Act{tableWrite(0)}, rest...), anyRead(0))...)
	}
}

func TestP77ActsOfOneGuestAloneAreTidy(t *testing.T) {
	eachPlay(tidyActs, func(_, guests int, acts []impl.Act) {
		wantTidy(t, "tidied acts", true, acts...)
		for guest := -1; guest <= guests; guest++ {
			wantTidy(t, "those of one guest", true, actsOf(acts, guest)...)
		}
		wantTidy(t, "those without the host's", true, withoutHost(acts)...)
	})
	// Acts that are tidy by chance, not as each write is followed by ActForget at once.
	byChance := 0
	for seed := range 3000 {
		acts := thrownActs(seed, guestsOf(seed), 8)
		if !impl.ActsTidy(acts) {
			continue
		}
		byChance++
		for guest := range guestsOf(seed) {
			wantTidy(t, "those of one guest", true, actsOf(acts, guest)...)
		}
		wantTidy(t, "those without the host's", true, withoutHost(acts)...)
	}
	if byChance < 300 {
		t.Errorf("just %d were tidy", byChance)
	}
}

func TestP77AllThatIsForgottenAtOnceIsTidy(t *testing.T) {
	were := 0
	eachPlay(anyActs, func(_, _ int, acts []impl.Act) {
		if !impl.ActsTidy(acts) {
			were++
		}
		wantTidy(t, "with ActForget behind each write to a table", true, tidied(acts)...)
	})
	if were < manyPlays/2 {
		t.Errorf("just %d were not tidy ahead of that", were)
	}
}

func TestP100BeginningsAndEndsAreTidy(t *testing.T) {
	eachPlay(tidyActs, func(_, _ int, acts []impl.Act) {
		for cut := range len(acts) + 1 {
			wantTidy(t, "a beginning", true, acts[:cut]...)
			wantTidy(t, "what is behind a beginning", true, acts[cut:]...)
		}
	})
}

// waits says whether the last one of a guest's acts is a write to its table, so that what follows decides whether all are tidy.
func waits(acts []impl.Act, guest int) bool {
	own := actsOf(acts, guest)
	return len(own) > 0 && own[len(own)-1].Kind == impl.ActWrite && own[len(own)-1].Page < impl.TabLow
}

func TestP101AWriteToATableAndAReading(t *testing.T) {
	tidy, open := map[bool]int{}, 0
	for seed := range 1500 {
		acts := thrownActs(seed, guestsOf(seed), 2+seed%7)
		guest := seed / 7 % impl.GuestMax
		for low := range impl.TabLow {
			write := actWrite(page{guest, low}, seed%impl.OffMax, 7)
			for _, read := range []impl.Act{anyRead(guest), actReadIn(page{guest, 1}, 2)} {
				wantTidy(t, "a write to a table, and a reading", false, append(slices.Clone(acts), write, read)...)
				if waits(acts, guest) {
					// See TestTidyActsThatEndWithAWriteToATable.
					open++
					continue
				}
				want := impl.ActsTidy(acts)
				wantTidy(t, "with ActForget between", want, append(slices.Clone(acts), write, actForget(guest), read)...)
				tidy[want]++
			}
		}
	}
	if tidy[false] < 300 || tidy[true] < 300 || open < 50 {
		t.Errorf("tidy and not there are %v, and %d that end with a write to the table", tidy, open)
	}
}

func TestTidyActsThatEndWithAWriteToATable(t *testing.T) {
	// They are tidy, as no act follows; one that follows has to be ActForget, be it another write to the table.
	wantTidy(t, "a write to a table in the end", true, anyRead(0), tableWrite(0))
	wantTidy(t, "and another one, forgotten and read", false, anyRead(0), tableWrite(0), tableWrite(0), actForget(0), anyRead(0))
	wantTidy(t, "and one of the other guest, forgotten and read", true, anyRead(0), tableWrite(0), tableWrite(1), actForget(1), anyRead(1))
	wantTidy(t, "and ActForget, and another one, forgotten and read", true, anyRead(0), tableWrite(0), actForget(0), tableWrite(0), actForget(0), anyRead(0))
}
