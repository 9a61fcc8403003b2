package parcels_test

import (
	"errors"
	"slices"
	"strconv"
	"strings"
	"testing"

	"parcels/api"
	"parcels/parcels"
	"parcels/plain"
)

// text is a package's text of just so many bytes (16 to 68).
func text(number, size int) string {
	name := "n" + strconv.Itoa(10000+number)
	head, file := "package "+name+" 1", ""
	if size > 31 {
		file = "\nfile " + name + "="
		file += strings.Repeat("c", min(size-len(head+file), api.MaxContent))
	}
	return head + strings.Repeat("0", size-len(head+file)) + file
}

// sized are packages that go together, of just so many bytes together (16 at the least).
func sized(size int) []string {
	var texts []string
	for size > 68 {
		texts = append(texts, text(len(texts), 40))
		size -= 40
	}
	return append(texts, text(len(texts), size))
}

// A size just at the room is installed, and one byte above it is not, on a disk of any number of sectors.
func TestInstallUpToTheRoom(t *testing.T) {
	for sectors := api.MinSectors; sectors <= api.MaxSectors; sectors++ {
		room := 24 * (sectors - 8)
		x := open(t, sectors)
		wantNoInstall(t, x, api.Fault{Kind: api.ErrSpace}, sized(room+1)...)
		wantNames(t, x, "")
		install(t, x, sized(room)...)
		wantFill(t, x, room, room)
		wantNoInstall(t, x, api.Fault{Kind: api.ErrSpace}, "package a 1")
	}
}

// What is installed counts as well as what is new; what is gone does not.
func TestInstallCountsAllPackages(t *testing.T) {
	for _, sectors := range []int{16, 17, 40, 255, 256} {
		room := 24 * (sectors - 8)
		x := open(t, sectors)
		install(t, x, sized(room-20)...)
		wantNoInstall(t, x, api.Fault{Kind: api.ErrSpace}, "package a 123456789", "package b 1")
		wantNoInstall(t, x, api.Fault{Kind: api.ErrSpace}, "package a 12345678901")
		install(t, x, "package a 1234567890")
		wantFill(t, x, room, room)
		remove(t, x, "a")
		install(t, x, "package b 1\nfile x=1")
		wantFill(t, x, room, room)
		wantNoInstall(t, x, api.Fault{Kind: api.ErrSpace}, "package a 1")
		remove(t, x, "b", "n10000")
		wantNoInstall(t, x, api.Fault{Kind: api.ErrSpace}, text(0, 61))
		install(t, x, text(0, 60))
		wantFill(t, x, room, room)
	}
}

// The one forms count, not the texts: a line break at the end is none of it.
func TestInstallCountsOneForms(t *testing.T) {
	x := open(t, api.MinSectors)
	texts := sized(192)
	for i := range texts {
		texts[i] += "\n"
	}
	install(t, x, texts...)
	wantFill(t, x, 192, 192)
}

// Every error of Plan is Install's too, with all that it tells, beside what is installed.
func TestInstallErrors(t *testing.T) {
	x := open(t, api.MinSectors)
	install(t, x, "package a 1\nneeds b (>= 2)\nbars k (>> 1)\nfile x=1", "package b 2\nfile y/z=")
	for _, c := range []struct {
		fault api.Fault
		texts []string
	}{
		{api.Fault{Kind: api.ErrForm, Line: 1}, []string{""}},
		{api.Fault{Kind: api.ErrForm, Which: 1, Line: 2}, []string{"package c 1", "package d 1\nneeds"}},
		{api.Fault{Kind: api.ErrForm, Which: 2}, []string{"package c 1", "package d 1", strings.Repeat("p", api.MaxText+1)}},
		{api.Fault{Kind: api.ErrTwice, Name: "a"}, []string{"package a 1\nneeds b (>= 2)\nbars k (>> 1)\nfile x=1"}},
		{api.Fault{Kind: api.ErrTwice, Which: 1, Name: "b"}, []string{"package c 1", "package b 1", "package c 1"}},
		{api.Fault{Kind: api.ErrTwice, Which: 2, Name: "d"}, []string{"package c 1", "package d 1", "package d 2"}},
		{api.Fault{Kind: api.ErrNeeds, Name: "c"}, []string{"package d 1\nneeds z", "package c 1\nneeds b (<< 2)"}},
		{api.Fault{Kind: api.ErrBars, Name: "a"}, []string{"package k 2", "package c 1"}},
		{api.Fault{Kind: api.ErrBars, Name: "c"}, []string{"package c 1\nbars b"}},
		{api.Fault{Kind: api.ErrOwner, Name: "x"}, []string{"package c 1\nfile x/y=1"}},
		{api.Fault{Kind: api.ErrOwner, Name: "y"}, []string{"package c 1\nfile z=\nfile y="}},
		{api.Fault{Kind: api.ErrOwner, Name: "y/z"}, []string{"package c 1\nfile y/z="}},
		{api.Fault{Kind: api.ErrCycle, Name: "c"}, []string{"package d 1\nneeds c", "package c 1\nneeds d", "package e 1"}},
	} {
		wantNoInstall(t, x, c.fault, c.texts...)
		if order, f := x.Plan(c.texts); len(order) != 0 || f != plainFault(c.fault) {
			t.Errorf("P6: Plan(%q) = %q, %v, want %v", c.texts, order, f, c.fault)
		}
	}
	wantNames(t, x, "a b")
	install(t, x, "package k 1", "package c 1\nneeds a\nfile y/y=")
	wantNames(t, x, "a b c k")
}

// Of several errors the one that the document names first; room is asked for last.
func TestInstallErrorsInTheirOrder(t *testing.T) {
	x := open(t, api.MinSectors)
	install(t, x, "package there 1\nfile p=1")
	forAnyOf([]wrongTexts{
		{[]string{"package k 1\nneeds"}, api.Fault{Kind: api.ErrForm, Line: 2}},
		{[]string{"package there 1"}, api.Fault{Kind: api.ErrTwice, Name: "there"}},
		{[]string{"package i 1\nneeds x"}, api.Fault{Kind: api.ErrNeeds, Name: "i"}},
		{[]string{"package h 1\nbars there"}, api.Fault{Kind: api.ErrBars, Name: "h"}},
		{[]string{"package f 1\nfile p/q=1"}, api.Fault{Kind: api.ErrOwner, Name: "p"}},
		{[]string{"package d 1\nneeds c", "package c 1\nneeds d"}, api.Fault{Kind: api.ErrCycle, Name: "c"}},
		{sized(200), api.Fault{Kind: api.ErrSpace}},
	}, func(want api.Fault, texts []string) { wantNoInstall(t, x, want, texts...) })
}

// What is installed is there for what comes later, and is not in its order.
func TestInstallAndThenPlan(t *testing.T) {
	x := open(t, api.MinSectors)
	install(t, x, "package c 1")
	for _, c := range []struct {
		texts []string
		order string
	}{
		{nil, ""},
		{[]string{"package b 1\nneeds c", "package a 1\nneeds b"}, "b a"},
		{[]string{"package a 1\nneeds b | c", "package b 1\nneeds a"}, "a b"},
	} {
		if order, f := askPlan(t, x, c.texts); order != c.order || f != (plain.Fault{}) {
			t.Errorf("P6: Plan(%q) = %q, %v, want %q", c.texts, order, f, c.order)
		}
	}
	wantNames(t, x, "c")
	install(t, x, "package a 1\nneeds b | c", "package b 1\nneeds a")
	wantNames(t, x, "a b c")
}

// A list that was handed in is the caller's, and so is one that came out.
func TestListsAreTheCallers(t *testing.T) {
	x := open(t, api.MinSectors)
	texts := []string{"package b 1\nfile x=1", "package a 1\nneeds b"}
	order, _ := x.Plan(texts)
	order[0], order[1] = "x", "y"
	if f := x.Install(texts); f != (plain.Fault{}) {
		t.Fatalf("P7: Install(%q) = %v", texts, f)
	}
	before := told(t, x)
	texts[0], texts[1] = "package z 1", ""
	list, _ := x.Packages()
	list[0], list[1] = "", "package z 1"
	names := []string{"a", "z"}
	x.Remove(names)
	names[1] = "b"
	if after := told(t, x); after != before {
		t.Errorf("P1: the caller's lists changed\n%s\nto\n%s", before, after)
	}
	names = []string{"a"}
	if f := x.Remove(names); f != (plain.Fault{}) {
		t.Fatalf("P8: Remove(%q) = %v", names, f)
	}
	names[0] = "b"
	wantNames(t, x, "b")
}

// The error is an *api.Fault that wraps its kind.
func TestInstallAndRemoveErrorsAreFaults(t *testing.T) {
	s, err := parcels.Open(noughts(api.MinSectors))
	if s == nil || err != nil {
		t.Fatalf("P10: Open = %v, %v", s, err)
	}
	for _, c := range []struct {
		err  error
		want api.Fault
	}{
		{s.Install("package a 1\n\n"), api.Fault{Kind: api.ErrForm, Line: 2}},
		{s.Install("package a 1\nneeds b"), api.Fault{Kind: api.ErrNeeds, Name: "a"}},
		{s.Install(sized(193)...), api.Fault{Kind: api.ErrSpace}},
		{s.Remove("a"), api.Fault{Kind: api.ErrAbsent, Name: "a"}},
	} {
		var f *api.Fault
		if !errors.As(c.err, &f) || *f != c.want || !errors.Is(c.err, c.want.Kind) {
			t.Errorf("Words: %v, want %v", c.err, c.want)
		}
	}
	if err := errors.Join(s.Install("package a 1"), s.Install(), s.Remove("a"), s.Remove()); err != nil {
		t.Errorf("P7, P8: %v", err)
	}
}

// Where there is no disk there is no room, and nothing panics.
func TestNoDisk(t *testing.T) {
	s, err := parcels.Open(nil)
	if s == nil || err != nil {
		t.Fatalf("P10: Open = %v, %v", s, err)
	}
	if err := s.Install("package a 1"); !errors.Is(err, api.ErrSpace) {
		t.Errorf("P7: Install = %v", err)
	}
	if order, err := s.Plan("package a 1"); err != nil || !slices.Equal(order, []string{"a"}) {
		t.Errorf("P6: Plan = %q, %v", order, err)
	}
	if s.Fill() != 0 {
		t.Errorf("P9: Fill = %v", s.Fill())
	}
}

// Many packages at once are told to be too many, in good time.
func TestInstallOfTooMany(t *testing.T) {
	_, texts := chain(20000, "")
	wantNoInstall(t, open(t, api.MaxSectors), api.Fault{Kind: api.ErrSpace}, texts...)
}
