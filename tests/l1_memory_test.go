package tests

import (
	"slices"
	"testing"

	"loop.example/casket/impl"
)

func TestTableCallsChangeNoArgument(t *testing.T) {
	other := roomy(numberedTab(2718281))
	otherWas := whole(other)
	for _, given := range allTabs() {
		tab := roomy(given)
		was := whole(tab)
		impl.TabOk(tab)
		impl.TabText(tab)
		for page := -1; page <= impl.PageMax; page++ {
			impl.TabAt(tab, page)
		}
		scribble(impl.TabOver(tab, other))
		scribble(impl.TabOver(other, tab))
		scribble(impl.TabOver(tab, tab))
		if !slices.Equal(whole(tab), was) || !slices.Equal(whole(other), otherWas) {
			t.Fatalf("a call, or a write into its answer, changed %v, or %v", given, other)
		}
	}
}

func TestTabOverAnswersAreNewMemory(t *testing.T) {
	tabs := someTabs(40)
	for _, a := range tabs {
		for _, b := range tabs {
			left, right := roomy(a), roomy(b)
			first, second := impl.TabOver(left, right), impl.TabOver(left, right)
			want := slices.Clone(first)
			scribble(first)
			scribble(left)
			scribble(right)
			if !slices.Equal(second, want) {
				t.Fatalf("TabOver(%v, %v) shares memory with its arguments, or with another answer", a, b)
			}
			if third := impl.TabOver(a, b); !slices.Equal(third, want) {
				t.Fatalf("TabOver(%v, %v) is %v, and was %v", a, b, third, want)
			}
		}
	}
}

func TestTabReadAnswersAreNewMemory(t *testing.T) {
	for _, tab := range someTabs(200) {
		text := impl.TabText(tab)
		first, _ := impl.TabRead(text)
		second, _ := impl.TabRead(text)
		scribble(first)
		third, ok := impl.TabRead(text)
		if !ok || !slices.Equal(second, tab) || !slices.Equal(third, tab) {
			t.Fatalf("answers of TabRead(%q) share memory", text)
		}
	}
}

func TestRoomBehindATableDoesNotCount(t *testing.T) {
	for _, given := range allTabs() {
		tab := roomy(given)
		if impl.TabOk(tab) != impl.TabOk(given) || impl.TabText(tab) != impl.TabText(given) {
			t.Errorf("what is behind the end of %v counts", given)
		}
		if !slices.Equal(impl.TabOver(tab, selfTab()), impl.TabOver(given, selfTab())) {
			t.Errorf("what is behind the end of %v counts", given)
		}
		if impl.TabAt(tab, len(tab)) != (impl.Entry{}) {
			t.Errorf("an entry is behind the end of %v", given)
		}
	}
}
