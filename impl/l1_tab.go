package impl

import (
	"iter"
	"strconv"
	"strings"
)

// Limits of tables: pages of a guest, and of its own guest.
const (
	PageMax = 6
	TabLow  = 2
)

// How a text tells entries apart.
const (
	gapText    = "-"
	writeMark  = "w"
	entryBreak = " "
	tabEnd     = "\n"
)

// Entry is whether there is something, on which page, and whether it may be written.
type Entry struct {
	Has   bool
	Page  int
	Write bool
}

// link is an entry by its kind, so that only one that leads somewhere can be asked for its page.
type link interface {
	num() int
	text() string
	entry() Entry
}

// gap is an entry that leads nowhere.
type gap struct{}

// lead is an entry that leads to a page.
type lead struct {
	page  int
	write bool
}

func (gap) num() int {
	return 0
}

func (gap) text() string {
	return gapText
}

func (gap) entry() Entry {
	return Entry{}
}

func (l lead) num() int {
	num := 1 + 2*l.page
	if l.write {
		num++
	}
	return num
}

func (l lead) text() string {
	text := strconv.Itoa(l.page)
	if l.write {
		text += writeMark
	}
	return text
}

func (l lead) entry() Entry {
	return Entry{Has: true, Page: l.page, Write: l.write}
}

// linkOf asks Has alone: an entry that has nothing leads nowhere, whatever else stands in it.
func linkOf(e Entry) link {
	if !e.Has {
		return gap{}
	}
	return lead{page: e.Page, write: e.Write}
}

// EntryNum is the word of an entry.
func EntryNum(e Entry) int {
	return linkOf(e).num()
}

// EntryOf is the entry of a word.
func EntryOf(word int) Entry {
	// A word comes from a guest: it must not lead to the pages of the table itself, nor past the last page.
	lowest := lead{page: TabLow}
	highest := lead{page: PageMax - 1, write: true}
	if word < lowest.num() || word > highest.num() {
		return Entry{}
	}
	return lead{page: (word - 1) / 2, write: word%2 == 0}.entry()
}

// TabOk says whether a table is one.
func TabOk(tab []Entry) bool {
	if len(tab) != PageMax {
		return false
	}
	for _, e := range tab {
		if !entryOk(e) {
			return false
		}
	}
	return true
}

// entryOk also looks at the entry itself, as a gap no longer shows what stood beside Has.
func entryOk(e Entry) bool {
	switch l := linkOf(e).(type) {
	case lead:
		return pageOk(l.page)
	default:
		return e == Entry{}
	}
}

func pageOk(page int) bool {
	return page >= 0 && page < PageMax
}

// TabAt is an entry of a table.
func TabAt(tab []Entry, page int) Entry {
	if !TabOk(tab) || !pageOk(page) {
		return Entry{}
	}
	return tab[page]
}

// TabOver is a table behind another one.
func TabOver(a []Entry, b []Entry) []Entry {
	if !TabOk(a) || !TabOk(b) {
		return nil
	}
	tab := make([]Entry, PageMax)
	for page, e := range a {
		tab[page] = follow(linkOf(e), b).entry()
	}
	return tab
}

// follow is where a link of an ok table comes out behind another ok table.
func follow(first link, tab []Entry) link {
	switch l := first.(type) {
	case lead:
		return narrow(linkOf(tab[l.page]), l.write)
	default:
		return gap{}
	}
}

// narrow keeps a link from being written by one who may not write the link that led to it.
func narrow(second link, write bool) link {
	switch l := second.(type) {
	case lead:
		return lead{page: l.page, write: l.write && write}
	default:
		return gap{}
	}
}

// TabText is the text of a table.
func TabText(tab []Entry) string {
	if !TabOk(tab) {
		return ""
	}
	texts := make([]string, 0, PageMax)
	for _, e := range tab {
		texts = append(texts, linkOf(e).text())
	}
	return strings.Join(texts, entryBreak) + tabEnd
}

// TabRead is the table of a text.
func TabRead(text string) ([]Entry, bool) {
	line, ended := strings.CutSuffix(text, tabEnd)
	if !ended {
		return nil, false
	}
	tab := make([]Entry, 0, PageMax)
	for piece := range pieces(line) {
		l, known := readLink(piece)
		if !known || len(tab) == PageMax {
			return nil, false
		}
		tab = append(tab, l.entry())
	}
	if len(tab) != PageMax {
		return nil, false
	}
	return tab, true
}

// pieces goes through what stands between single blanks; a blank too many leaves an empty piece, which is no entry.
func pieces(line string) iter.Seq[string] {
	return func(yield func(string) bool) {
		rest, more := line, true
		for more {
			var piece string
			piece, rest, more = strings.Cut(rest, entryBreak)
			if !yield(piece) {
				return
			}
		}
	}
}

// readLink holds a piece against what each page would be written as, so that there is one way to write it.
func readLink(piece string) (link, bool) {
	if piece == gapText {
		return gap{}, true
	}
	figures, write := strings.CutSuffix(piece, writeMark)
	for page := range PageMax {
		if figures == strconv.Itoa(page) {
			return lead{page: page, write: write}, true
		}
	}
	return gap{}, false
}
