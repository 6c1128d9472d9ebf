package tests

import (
	"math"
	"slices"
	"testing"

	"loop.example/casket/impl"
)

// okEntries are all entries that may stand in a table; nothing is the first one.
func okEntries() []impl.Entry {
	entries := []impl.Entry{{}}
	for page := range impl.PageMax {
		entries = append(entries, impl.Entry{Has: true, Page: page}, impl.Entry{Has: true, Page: page, Write: true})
	}
	return entries
}

// wrongEntries are entries that may stand in no table.
func wrongEntries() []impl.Entry {
	entries := []impl.Entry{
		{Write: true},
		{Page: 1},
		{Page: impl.TabLow},
		{Page: impl.PageMax - 1},
		{Page: impl.PageMax},
		{Page: -1},
		{Page: 3, Write: true},
		{Page: math.MinInt},
		{Page: math.MaxInt, Write: true},
	}
	for _, page := range farPages() {
		entries = append(entries, impl.Entry{Has: true, Page: page}, impl.Entry{Has: true, Page: page, Write: true})
	}
	return entries
}

// farPages are pages that no guest has; the ones far out are a page of a guest, if bits are lost.
func farPages() []int {
	return []int{
		-1, -2, -5, -6, impl.PageMax, impl.PageMax + 1, impl.PageMax * 2, 63, 64, 256, 256 + 3, 1<<16 + 3, 1<<32 + 3,
		math.MaxInt, math.MaxInt - 3, math.MinInt, math.MinInt + 3,
	}
}

// numberedTab is the table whose entries are the figures of a number, by the count of ok entries.
func numberedTab(number int) []impl.Entry {
	entries := okEntries()
	tab := make([]impl.Entry, impl.PageMax)
	for page := range tab {
		tab[page] = entries[number%len(entries)]
		number /= len(entries)
	}
	return tab
}

// someTabs are ok tables, spread over all there are by a step that has no divisor with their count.
func someTabs(count int) [][]impl.Entry {
	all := 1
	for range impl.PageMax {
		all *= len(okEntries())
	}
	tabs := knownTabs()
	for i := range count {
		tabs = append(tabs, numberedTab((i*1234577+4242)%all))
	}
	return tabs
}

// knownTabs are ok tables at the edges: no entry, all entries the same, each page itself, one entry alone.
func knownTabs() [][]impl.Entry {
	var tabs [][]impl.Entry
	for _, e := range okEntries() {
		tabs = append(tabs, slices.Repeat([]impl.Entry{e}, impl.PageMax))
	}
	backwards := selfTab()
	slices.Reverse(backwards)
	tabs = append(tabs, selfTab(), backwards)
	for page := range impl.PageMax {
		first, last := emptyTab(), emptyTab()
		first[page] = impl.Entry{Has: true}
		last[page] = impl.Entry{Has: true, Page: impl.PageMax - 1, Write: true}
		tabs = append(tabs, first, last)
	}
	return tabs
}

func emptyTab() []impl.Entry {
	return make([]impl.Entry, impl.PageMax)
}

// selfTab is the table in which each page is itself, and may be written.
func selfTab() []impl.Entry {
	tab := emptyTab()
	for page := range tab {
		tab[page] = impl.Entry{Has: true, Page: page, Write: true}
	}
	return tab
}

// wrongTabs are tables that are not ok: too short, too long, or with one wrong entry at any place.
func wrongTabs() [][]impl.Entry {
	tabs := [][]impl.Entry{nil, {}}
	for _, e := range []impl.Entry{{}, {Has: true}, {Has: true, Page: 3, Write: true}, {Has: true, Page: impl.PageMax}} {
		for _, count := range []int{1, impl.PageMax - 1, impl.PageMax + 1, 2 * impl.PageMax, 1000} {
			tabs = append(tabs, slices.Repeat([]impl.Entry{e}, count))
		}
	}
	tabs = append(tabs, selfTab()[:impl.PageMax-1], append(selfTab(), impl.Entry{}), append(selfTab(), selfTab()[0]))
	for _, e := range wrongEntries() {
		for page := range impl.PageMax {
			for _, tab := range [][]impl.Entry{emptyTab(), selfTab()} {
				tab[page] = e
				tabs = append(tabs, tab)
			}
		}
	}
	return tabs
}

// allTabs are tables of all kinds, ok or not.
func allTabs() [][]impl.Entry {
	return append(someTabs(20), wrongTabs()...)
}

// without is the table with nothing at that page.
func without(tab []impl.Entry, page int) []impl.Entry {
	changed := slices.Clone(tab)
	changed[page] = impl.Entry{}
	return changed
}

// unwritten is the table whose entry of that page may not be written.
func unwritten(tab []impl.Entry, page int) []impl.Entry {
	changed := slices.Clone(tab)
	changed[page].Write = false
	return changed
}

// same holds lists against each other as the document does: the empty one and nil are one.
func same(a, b []impl.Entry) bool {
	return slices.Equal(a, b)
}

// roomy is the same table with room behind its end, which is filled so that a write there shows.
func roomy(tab []impl.Entry) []impl.Entry {
	room := append(slices.Clone(tab), slices.Repeat([]impl.Entry{junk()}, impl.PageMax+2)...)
	return room[:len(tab)]
}

func junk() impl.Entry {
	return impl.Entry{Page: -77, Write: true}
}

// whole is a copy of a table and the room behind its end.
func whole(tab []impl.Entry) []impl.Entry {
	return slices.Clone(tab[:cap(tab)])
}

// scribble writes over an answer and the room behind its end.
func scribble(tab []impl.Entry) {
	tab = tab[:cap(tab)]
	for i := range tab {
		tab[i] = junk()
	}
}

// wantNoTab fails if an answer that has to be nothing is something.
func wantNoTab(t *testing.T, what string, got []impl.Entry) {
	t.Helper()
	if len(got) != 0 {
		t.Errorf("%s is %v, and has to be no table", what, got)
	}
}
