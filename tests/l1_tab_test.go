package tests

import (
	"math"
	"testing"

	"loop.example/casket/impl"
)

func TestTabOk(t *testing.T) {
	for _, tab := range someTabs(20000) {
		if !impl.TabOk(tab) {
			t.Errorf("TabOk(%v) is false", tab)
		}
	}
	for _, tab := range wrongTabs() {
		if impl.TabOk(tab) {
			t.Errorf("TabOk(%v) is true", tab)
		}
	}
}

func TestTabOkOfEachEntryAtEachPlace(t *testing.T) {
	for page := range impl.PageMax {
		for _, e := range okEntries() {
			tab := emptyTab()
			tab[page] = e
			if !impl.TabOk(tab) {
				t.Errorf("TabOk(%v) is false", tab)
			}
		}
	}
}

func TestP6TabAt(t *testing.T) {
	pages := append(farPages(), math.MaxInt32, math.MinInt32)
	for _, tab := range someTabs(2000) {
		for page, want := range tab {
			if got := impl.TabAt(tab, page); got != want {
				t.Errorf("TabAt(%v, %d) is %v", tab, page, got)
			}
		}
		for _, page := range pages {
			if got := impl.TabAt(tab, page); got != (impl.Entry{}) {
				t.Errorf("TabAt(%v, %d) is %v, and has to be nothing", tab, page, got)
			}
		}
	}
}

func TestP6TabAtOfWrongTables(t *testing.T) {
	for _, tab := range wrongTabs() {
		for page := -2; page <= len(tab)+2; page++ {
			if got := impl.TabAt(tab, page); got != (impl.Entry{}) {
				t.Errorf("TabAt(%v, %d) is %v, and has to be nothing", tab, page, got)
			}
		}
	}
}

func TestTabOverOfKnownTables(t *testing.T) {
	cases := []struct{ a, b, want string }{
		{"1w 0 - 5w - 2\n", "3 2w - - - 4w\n", "2w 3 - 4w - -\n"},
		{"0w 0 0w 0 - -\n", "5w - - - - -\n", "5w 5 5w 5 - -\n"},
		{"0w 0 0w 0 - -\n", "5 - - - - -\n", "5 5 5 5 - -\n"},
		{"5w 4w 3w 2w 1w 0w\n", "0w 1 2w 3 - 5\n", "5 - 3 2w 1 0w\n"},
		{"0w 1 2w 3 - 5\n", "5w 4w 3w 2w 1w 0w\n", "5w 4 3w 2 - 0\n"},
	}
	for _, c := range cases {
		a, aOk := impl.TabRead(c.a)
		b, bOk := impl.TabRead(c.b)
		if !aOk || !bOk {
			t.Fatalf("%q or %q cannot be read", c.a, c.b)
		}
		if got := impl.TabText(impl.TabOver(a, b)); got != c.want {
			t.Errorf("TabOver of %q and %q is %q, and has to be %q", c.a, c.b, got, c.want)
		}
	}
}

func TestP7TabOver(t *testing.T) {
	tabs := someTabs(150)
	for _, a := range tabs {
		for _, b := range tabs {
			got := impl.TabOver(a, b)
			if !impl.TabOk(got) {
				t.Fatalf("TabOver(%v, %v) is %v, which is not ok", a, b, got)
			}
			checkOver(t, a, b, got)
		}
	}
}

// checkOver holds each entry of what TabOver answered against the two that lead there.
func checkOver(t *testing.T, a, b, got []impl.Entry) {
	t.Helper()
	for page, e := range a {
		want := impl.Entry{}
		if e.Has && b[e.Page].Has {
			want = impl.Entry{Has: true, Page: b[e.Page].Page, Write: e.Write && b[e.Page].Write}
		}
		if got[page] != want {
			t.Errorf("TabOver(%v, %v) has %v at %d, and has to have %v", a, b, got[page], page, want)
		}
	}
}

func TestTabOverOfWrongTables(t *testing.T) {
	tabs := wrongTabs()
	for _, wrong := range tabs {
		for _, ok := range [][]impl.Entry{emptyTab(), selfTab(), numberedTab(3141592)} {
			wantNoTab(t, "TabOver with the first one wrong", impl.TabOver(wrong, ok))
			wantNoTab(t, "TabOver with the second one wrong", impl.TabOver(ok, wrong))
		}
		for _, other := range tabs {
			wantNoTab(t, "TabOver with both wrong", impl.TabOver(wrong, other))
		}
	}
}

func TestP8TabOverOfThree(t *testing.T) {
	tabs := someTabs(40)
	for _, a := range tabs {
		for _, b := range tabs {
			ab := impl.TabOver(a, b)
			for _, c := range tabs {
				left, right := impl.TabOver(ab, c), impl.TabOver(a, impl.TabOver(b, c))
				if !impl.TabOk(left) || !same(left, right) {
					t.Fatalf("of %v, %v, %v: %v, and %v", a, b, c, left, right)
				}
			}
		}
	}
}

func TestP9TabOverWithEachPageItself(t *testing.T) {
	for _, tab := range someTabs(5000) {
		if got := impl.TabOver(selfTab(), tab); !same(got, tab) {
			t.Errorf("each page itself ahead of %v: %v", tab, got)
		}
		if got := impl.TabOver(tab, selfTab()); !same(got, tab) {
			t.Errorf("each page itself behind %v: %v", tab, got)
		}
	}
}

func TestP10TabOverWithLessHasNoMore(t *testing.T) {
	tabs := someTabs(40)
	for _, a := range tabs {
		for _, b := range tabs {
			full := impl.TabOver(a, b)
			for page := range impl.PageMax {
				checkNoMore(t, full, impl.TabOver(without(a, page), b))
				checkNoMore(t, full, impl.TabOver(unwritten(a, page), b))
				checkNoMore(t, full, impl.TabOver(a, without(b, page)))
				checkNoMore(t, full, impl.TabOver(a, unwritten(b, page)))
			}
		}
	}
}

// checkNoMore fails if less has an entry, or one that may be written, where full has none.
func checkNoMore(t *testing.T, full, less []impl.Entry) {
	t.Helper()
	if len(less) != impl.PageMax {
		t.Fatalf("%v is no table", less)
	}
	for page, e := range less {
		if e.Has && !full[page].Has || e.Write && !full[page].Write {
			t.Errorf("%v has more than %v", less, full)
		}
	}
}

func TestP11TabOverWithNoEntries(t *testing.T) {
	for _, tab := range someTabs(5000) {
		if got := impl.TabOver(emptyTab(), tab); !same(got, emptyTab()) {
			t.Errorf("no entries ahead of %v: %v", tab, got)
		}
		if got := impl.TabOver(tab, emptyTab()); !same(got, emptyTab()) {
			t.Errorf("no entries behind %v: %v", tab, got)
		}
	}
}

func TestP12TablesWithLessAreOk(t *testing.T) {
	for _, tab := range someTabs(5000) {
		for page := range tab {
			if !impl.TabOk(without(tab, page)) || !impl.TabOk(unwritten(tab, page)) {
				t.Errorf("%v is not ok with less at %d", tab, page)
			}
		}
	}
}
