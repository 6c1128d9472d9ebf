package tests

import (
	"regexp"
	"slices"
	"strings"
	"testing"

	"loop.example/casket/impl"
)

// What the text of an ok table is.
var tabForm = regexp.MustCompile(`\A(?:-|[0-5]w?)(?: (?:-|[0-5]w?)){5}\n\z`)

func TestTabTextAndTabReadOfKnownTables(t *testing.T) {
	cases := []struct {
		tab  []impl.Entry
		text string
	}{
		{emptyTab(), "- - - - - -\n"},
		{selfTab(), "0w 1w 2w 3w 4w 5w\n"},
		{slices.Repeat([]impl.Entry{{Has: true}}, impl.PageMax), "0 0 0 0 0 0\n"},
		{[]impl.Entry{{Has: true, Page: 1, Write: true}, {Has: true}, {}, {Has: true, Page: 5, Write: true}, {}, {Has: true, Page: 2}}, "1w 0 - 5w - 2\n"},
		{[]impl.Entry{{}, {Has: true, Page: 4}, {Has: true, Page: 3}, {Has: true, Write: true}, {Has: true, Page: 5}, {}}, "- 4 3 0w 5 -\n"},
	}
	for _, c := range cases {
		if got := impl.TabText(c.tab); got != c.text {
			t.Errorf("TabText(%v) is %q, and has to be %q", c.tab, got, c.text)
		}
		if got, ok := impl.TabRead(c.text); !ok || !same(got, c.tab) {
			t.Errorf("TabRead(%q) is %v, %v, and has to be %v", c.text, got, ok, c.tab)
		}
	}
}

func TestTabTextOfWrongTables(t *testing.T) {
	for _, tab := range wrongTabs() {
		if got := impl.TabText(tab); got != "" {
			t.Errorf("TabText(%v) is %q, and has to be empty", tab, got)
		}
	}
}

func TestP4TablesAreReadBack(t *testing.T) {
	for _, tab := range someTabs(50000) {
		text := impl.TabText(tab)
		if got, ok := impl.TabRead(text); !ok || !same(got, tab) {
			t.Errorf("%v has the text %q, of which %v, %v is read", tab, text, got, ok)
		}
	}
}

func TestP5TabReadOfChangedTexts(t *testing.T) {
	read := 0
	for _, text := range changedTexts() {
		if checkRead(t, text) {
			read++
		}
	}
	if read == 0 {
		t.Error("none of the texts is of a table")
	}
}

// checkRead holds TabRead of a text against the form of texts, and says whether it is one.
func checkRead(t *testing.T, text string) bool {
	t.Helper()
	tab, ok := impl.TabRead(text)
	if ok != tabForm.MatchString(text) {
		t.Errorf("TabRead(%q) is %v, %v", text, tab, ok)
	}
	if !ok {
		wantNoTab(t, "TabRead that is false", tab)
		return false
	}
	if !impl.TabOk(tab) || impl.TabText(tab) != text {
		t.Errorf("of %q %v is read, which is ok: %v, and has the text %q", text, tab, impl.TabOk(tab), impl.TabText(tab))
	}
	return true
}

// changedTexts are texts of tables in which one byte is taken away, put in or changed, or two stand the other way round.
func changedTexts() []string {
	var texts []string
	for _, text := range []string{"1w 0 - 5w - 2\n", "- - - - - -\n", "0 1 2 3 4 5\n", "0w 1w 2w 3w 4w 5w\n"} {
		texts = append(texts, text)
		for at := range len(text) {
			ahead, behind := text[:at], text[at+1:]
			texts = append(texts, ahead, behind, ahead+behind)
			for b := range 256 {
				one := string([]byte{byte(b)})
				texts = append(texts, ahead+one+behind, ahead+one+text[at:])
			}
			if at > 0 {
				texts = append(texts, text[:at-1]+text[at:at+1]+text[at-1:at]+behind)
			}
		}
		for b := range 256 {
			texts = append(texts, text+string([]byte{byte(b)}))
		}
	}
	return texts
}

func TestP5TabReadOfWrongTexts(t *testing.T) {
	texts := []string{
		"", "\n", "\n\n", " ", " \n", "-", "-\n", "w\n", "0", "0\n",
		// Too few entries, and too many.
		"1 2 3 4 5\n", "- - - - -\n", "0 1 2 3 4 5 0\n", "- - - - - - -\n", "0 1 2 3 4 5 5w 0w -\n",
		// Pages that there are none of.
		"1 2 3 4 5 6\n", "6 0 0 0 0 0\n", "0 0 9w 0 0 0\n", "0 -1 0 0 0 0\n", "10 0 0 0 0 0\n", "259 0 0 0 0 0\n", "0 0 0 0 0 18446744073709551616\n",
		// The newline.
		"1 2 3 4 5 0", "0 1 2 3 4 5\n\n", "\n0 1 2 3 4 5\n", "0 1 2\n3 4 5\n", "0 1 2 3 4 5\r\n", "0 1 2 3 4 5\n ", "0 1 2 3 4 5\nw", "0 1 2 3 4 5\x00", "0\n1\n2\n3\n4\n5\n",
		"0 1 2 3 4 5\n0 1 2 3 4 5\n",
		// Blanks.
		" 0 1 2 3 4 5\n", "0 1 2 3 4 5 \n", "0  1 2 3 4 5\n", "0 1 2 3 4  5\n", "0 1 2\t3 4 5\n", "0\u00a01 2 3 4 5\n", "012345\n", "------\n", "0 1 2 3 45\n", "0 1 2 3 4 \n", " 1 2 3 4 5\n", "0 1  3 4 5\n", "      \n", "     \n",
		// Signs too many, or others.
		"-w - - - - -\n", "w - - - - -\n", "-- - - - - -\n", "0ww 1 2 3 4 5\n", "w0 1 2 3 4 5\n", "0W 1 2 3 4 5\n", "0 w 1 2 3 4 5\n", "0 w 2 3 4 5\n", "0w- 1 2 3 4 5\n", "-0 1 2 3 4 5\n", "0- 1 2 3 4 5\n", "+0 1 2 3 4 5\n", "0r 1 2 3 4 5\n", "0,1,2,3,4,5\n", "_ - - - - -\n",
		// Needless zeros, and other ways to write a number.
		"00 1 2 3 4 5\n", "0 01 2 3 4 5\n", "0 1 2 3 4 05w\n", "0 1 2 3 4 005\n", "0x1 1 2 3 4 5\n", "1e0 1 2 3 4 5\n", "1.0 1 2 3 4 5\n", "1_ 1 2 3 4 5\n",
		// Figures and signs beside ASCII, and bytes that are no text.
		"\u0661 1 2 3 4 5\n", "\uff11 1 2 3 4 5\n", "\u2212 - - - - -\n", "\u2013 - - - - -\n", "\ufeff- - - - - -\n", "\xff - - - - -\n", "-\xff - - - - -\n", "\x00- - - - - -\n", "0\x00 1 2 3 4 5\n",
		// Long ones.
		strings.Repeat("- ", 100000) + "-\n", strings.Repeat("-", 100000) + "\n", strings.Repeat(" ", 100000), strings.Repeat("\n", 100000), strings.Repeat("0", 100000) + " - - - - -\n",
		"- - - - - -\n" + strings.Repeat("- ", 100000), strings.Repeat("- - - - - -\n", 1000),
	}
	for _, text := range texts {
		tab, ok := impl.TabRead(text)
		if ok || len(tab) != 0 {
			t.Errorf("TabRead(%.60q) is %v, %v, and has to be nothing", text, tab, ok)
		}
		if tabForm.MatchString(text) {
			t.Errorf("%.60q is of a table", text)
		}
	}
}

func TestP13TextsTellTablesApart(t *testing.T) {
	byText := map[string][]impl.Entry{}
	for _, tab := range someTabs(50000) {
		text := impl.TabText(tab)
		if !tabForm.MatchString(text) {
			t.Fatalf("TabText(%v) is %q", tab, text)
		}
		if other, known := byText[text]; known && !same(other, tab) {
			t.Fatalf("%q is the text of %v, and of %v", text, tab, other)
		}
		if again := impl.TabText(slices.Clone(tab)); again != text {
			t.Fatalf("%v has the texts %q, and %q", tab, text, again)
		}
		byText[text] = tab
	}
}

func TestP13TablesThatDifferInOneEntry(t *testing.T) {
	for _, tab := range someTabs(200) {
		text := impl.TabText(tab)
		for page := range tab {
			for _, e := range okEntries() {
				other := slices.Clone(tab)
				other[page] = e
				if (impl.TabText(other) == text) != (e == tab[page]) {
					t.Errorf("%v and %v: %q", tab, other, text)
				}
			}
		}
	}
}
