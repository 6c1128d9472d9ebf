package tests

import (
	"math"
	"testing"

	"loop.example/casket/impl"
)

// The words of all entries that a guest may give.
var givenWords = map[int]impl.Entry{
	5:  {Has: true, Page: 2},
	6:  {Has: true, Page: 2, Write: true},
	7:  {Has: true, Page: 3},
	8:  {Has: true, Page: 3, Write: true},
	9:  {Has: true, Page: 4},
	10: {Has: true, Page: 4, Write: true},
	11: {Has: true, Page: 5},
	12: {Has: true, Page: 5, Write: true},
}

func TestTableLimits(t *testing.T) {
	if impl.PageMax != 6 || impl.TabLow != 2 {
		t.Errorf("PageMax %d, TabLow %d", impl.PageMax, impl.TabLow)
	}
}

func TestEntryNum(t *testing.T) {
	cases := []struct {
		entry impl.Entry
		want  int
	}{
		{impl.Entry{}, 0},
		{impl.Entry{Has: true, Page: 0}, 1},
		{impl.Entry{Has: true, Page: 0, Write: true}, 2},
		{impl.Entry{Has: true, Page: 1}, 3},
		{impl.Entry{Has: true, Page: 1, Write: true}, 4},
		{impl.Entry{Has: true, Page: impl.TabLow}, 5},
		{impl.Entry{Has: true, Page: impl.TabLow, Write: true}, 6},
		{impl.Entry{Has: true, Page: 3}, 7},
		{impl.Entry{Has: true, Page: 4, Write: true}, 10},
		{impl.Entry{Has: true, Page: impl.PageMax - 1}, 11},
		{impl.Entry{Has: true, Page: impl.PageMax - 1, Write: true}, 12},
		// Pages that there are none of are counted on.
		{impl.Entry{Has: true, Page: impl.PageMax}, 13},
		{impl.Entry{Has: true, Page: impl.PageMax, Write: true}, 14},
		{impl.Entry{Has: true, Page: 1000}, 2001},
		{impl.Entry{Has: true, Page: -1}, -1},
		{impl.Entry{Has: true, Page: -1, Write: true}, 0},
		{impl.Entry{Has: true, Page: -4, Write: true}, -6},
	}
	for _, c := range cases {
		if got := impl.EntryNum(c.entry); got != c.want {
			t.Errorf("EntryNum(%v) is %d, and has to be %d", c.entry, got, c.want)
		}
	}
}

func TestEntryNumOfNothingWithMore(t *testing.T) {
	for _, e := range wrongEntries() {
		if got := impl.EntryNum(e); !e.Has && got != 0 {
			t.Errorf("EntryNum(%v) is %d, and there is nothing", e, got)
		}
	}
}

func TestP1EntryOfEntryNum(t *testing.T) {
	for _, e := range okEntries() {
		want := impl.Entry{}
		if e.Page >= impl.TabLow {
			want = e
		}
		if got := impl.EntryOf(impl.EntryNum(e)); got != want {
			t.Errorf("EntryOf(EntryNum(%v)) is %v, and has to be %v", e, got, want)
		}
	}
}

func TestP1OfPagesThatCannotBeGiven(t *testing.T) {
	for page := -200; page <= 200; page++ {
		for _, write := range []bool{false, true} {
			e := impl.Entry{Has: true, Page: page, Write: write}
			got := impl.EntryOf(impl.EntryNum(e))
			if (page < impl.TabLow || page >= impl.PageMax) && got != (impl.Entry{}) {
				t.Errorf("EntryOf(EntryNum(%v)) is %v, and has to be nothing", e, got)
			}
			e.Has = false
			if got := impl.EntryOf(impl.EntryNum(e)); got != (impl.Entry{}) {
				t.Errorf("EntryOf(EntryNum(%v)) is %v, and has to be nothing", e, got)
			}
		}
	}
}

func TestP2EntryOf(t *testing.T) {
	words := []int{
		math.MinInt, math.MinInt + 1, math.MinInt + 7, math.MinInt + 8, math.MaxInt, math.MaxInt - 1,
		math.MaxInt32, math.MinInt32, 1<<8 + 7, 1<<16 + 7, 1<<32 + 7, 1<<32 + 8, -1 << 32, 7 - 1<<32,
	}
	for word := -300; word <= 300; word++ {
		words = append(words, word)
	}
	for _, word := range words {
		got := impl.EntryOf(word)
		if want := givenWords[word]; got != want {
			t.Errorf("EntryOf(%d) is %v, and has to be %v", word, got, want)
		}
		if !got.Has {
			continue
		}
		if got.Page < impl.TabLow || got.Page >= impl.PageMax || impl.EntryNum(got) != word {
			t.Errorf("EntryOf(%d) is %v, of the word %d", word, got, impl.EntryNum(got))
		}
	}
}

func TestP3EntryNumTellsEntriesApart(t *testing.T) {
	for _, a := range okEntries() {
		for _, b := range okEntries() {
			if (impl.EntryNum(a) == impl.EntryNum(b)) != (a == b) {
				t.Errorf("EntryNum of %v is %d, of %v %d", a, impl.EntryNum(a), b, impl.EntryNum(b))
			}
		}
	}
}

func TestEntriesAtFarPages(t *testing.T) {
	for _, e := range wrongEntries() {
		// What comes of a page too far out to be counted is not named; that there is an answer is.
		impl.EntryOf(impl.EntryNum(e))
	}
}
