package parcels_test

import (
	"slices"
	"strings"
	"testing"

	"parcels/api"
	"parcels/plain"
)

// story is a call on a store where something is installed, or nothing.
type story struct {
	installed []string
	call      func(*plain.Session) plain.Fault
	fault     api.Fault
}

func installing(texts ...string) func(*plain.Session) plain.Fault {
	return func(x *plain.Session) plain.Fault { return x.Install(texts) }
}

func removing(names ...string) func(*plain.Session) plain.Fault {
	return func(x *plain.Session) plain.Fault { return x.Remove(names) }
}

// stories are calls on a disk of the least sectors: short ones, full ones, and some that are refused.
func stories() []story {
	a, b := "package a 1\nfile x=1", "package b 1\nneeds a\nfile bin/x=two words"
	full := sized(192)
	slices.Sort(full)
	return []story{
		{nil, installing(a), api.Fault{}},
		{nil, installing(b, a), api.Fault{}},
		{nil, installing(full...), api.Fault{}},
		{nil, installing(), api.Fault{}},
		{[]string{a}, installing(b, "package c 1"), api.Fault{}},
		{[]string{a}, installing(sized(172)...), api.Fault{}},
		{[]string{a, b}, removing("b"), api.Fault{}},
		{[]string{a, b}, removing("b", "a"), api.Fault{}},
		{[]string{a, b}, removing(), api.Fault{}},
		{full, removing(namesOf(full)[1]), api.Fault{}},
		{full, removing(namesOf(full)...), api.Fault{}},
		{[]string{a}, installing("package"), api.Fault{Kind: api.ErrForm, Line: 1}},
		{[]string{a}, installing("package c 1", a), api.Fault{Kind: api.ErrTwice, Which: 1, Name: "a"}},
		{[]string{a}, installing("package c 1\nneeds d"), api.Fault{Kind: api.ErrNeeds, Name: "c"}},
		{[]string{a}, installing("package c 1\nbars a"), api.Fault{Kind: api.ErrBars, Name: "c"}},
		{[]string{a}, installing("package c 1\nfile x="), api.Fault{Kind: api.ErrOwner, Name: "x"}},
		{[]string{a}, installing("package c 1\nneeds d", "package d 1\nneeds c"), api.Fault{Kind: api.ErrCycle, Name: "c"}},
		{[]string{a}, installing(sized(173)...), api.Fault{Kind: api.ErrSpace}},
		{[]string{a, b}, removing("b", "c"), api.Fault{Kind: api.ErrAbsent, Which: 1, Name: "c"}},
		{[]string{a, b}, removing("a"), api.Fault{Kind: api.ErrNeeds, Name: "b"}},
	}
}

// begin is a disk at the story's beginning.
func (s story) begin(t *testing.T, sectors int) *plain.Session {
	t.Helper()
	x := open(t, sectors)
	install(t, x, s.installed...)
	return x
}

// ends are what is told ahead of the call and behind it; the same, if it is refused.
func (s story) ends(t *testing.T, sectors int) (before, after string) {
	t.Helper()
	x := s.begin(t, sectors)
	before = told(t, x)
	if f := s.call(x); f != plainFault(s.fault) {
		t.Fatalf("P7, P8: the call answers %v, want %v", f, s.fault)
	}
	after = told(t, x)
	if refused := s.fault.Kind != api.OK; refused && before != after {
		t.Fatalf("P1: refused, and changed\n%s\nto\n%s", before, after)
	}
	return before, after
}

// wantWhole: what is told is what was told ahead of a call, or behind it; and behind it for sure, if the call came back.
func wantWhole(t *testing.T, x *plain.Session, before, after string, lost bool) {
	t.Helper()
	if got := told(t, x); got != after && !(lost && got == before) {
		t.Fatalf("P10: opened anew (power lost in the call: %v) it tells\n%s\nand not\n%s\nor\n%s", lost, got, before, after)
	}
}

// wantGoesOn: a disk on which the power had gone is as good as any other.
func wantGoesOn(t *testing.T, x *plain.Session) {
	t.Helper()
	texts, _ := x.Packages()
	if f := x.Install([]string{"package new 1"}); f.Kind == int(api.ErrSpace) {
		names := namesOf(texts)
		remove(t, x, names[len(names)-1])
		texts = texts[:len(texts)-1]
		install(t, x, "package new 1")
	} else if f.Kind != 0 {
		t.Fatalf("P7: Install behind a loss of power = %v", f)
	}
	reopen(t, x)
	texts = append(texts, "package new 1")
	slices.Sort(texts)
	if got, ok := x.Packages(); !slices.Equal(got, texts) || !ok {
		t.Fatalf("P10: behind a loss of power %q are found, want %q", got, texts)
	}
}

// The power goes at each Write and each Sync of a call, with each choice of the writes that took hold.
func TestPowerInACall(t *testing.T) {
	for _, sectors := range []int{api.MinSectors, 17} {
		for _, s := range stories() {
			if s.fault.Kind == api.ErrSpace && sectors > api.MinSectors {
				continue
			}
			before, after := s.ends(t, sectors)
			lost := true
			for cut := 0; lost; cut++ {
				for mask := range 1 << min(cut, 8) {
					x := s.begin(t, sectors)
					x.Cut(cut)
					s.call(x)
					lost = x.Lost()
					x.Reopen(mask, -1)
					wantWhole(t, x, before, after, lost)
					wantGoesOn(t, x)
				}
			}
		}
	}
}

// The power goes in a call, and then at each Write and each Sync of Open, again and again.
func TestPowerInOpen(t *testing.T) {
	for _, s := range stories() {
		before, after := s.ends(t, api.MinSectors)
		lost := true
		for cut := 0; lost; cut++ {
			for mask := range 1 << min(cut, 5) {
				for most := range 6 {
					x := s.begin(t, api.MinSectors)
					x.Cut(cut)
					s.call(x)
					lost = x.Lost()
					chosen := mask
					for again := range most {
						x.Reopen(chosen, again)
						chosen = ^chosen
					}
					// As long as Open still writes, the power goes one step later.
					for again := most; x.Lost(); again++ {
						x.Reopen(chosen, again)
					}
					wantWhole(t, x, before, after, lost)
					x.Cut(-1)
					wantGoesOn(t, x)
				}
			}
		}
	}
}

// On a disk of the most sectors a call has a great many steps: the power goes at each of them, with some choices.
func TestPowerOnAGreatDisk(t *testing.T) {
	texts := sized(24 * (api.MaxSectors - 8))
	half := len(texts) / 2
	for _, s := range []story{
		{texts[:half], installing(texts[half:]...), api.Fault{}},
		{texts, removing(namesOf(texts)[:half]...), api.Fault{}},
	} {
		before, after := s.ends(t, api.MaxSectors)
		lost := true
		for cut := 0; lost; cut++ {
			for _, mask := range []int{0, -1, 0x5555555555555555, 0x00ff00ff00ff00ff} {
				x := s.begin(t, api.MaxSectors)
				x.Cut(cut)
				s.call(x)
				lost = x.Lost()
				x.Reopen(mask, -1)
				wantWhole(t, x, before, after, lost)
			}
		}
	}
}

// The power goes in one call after the other: all that had come back is done, and each one in the middle whole, or not at all.
func TestPowerAgainAndAgain(t *testing.T) {
	calls := []func(*plain.Session) plain.Fault{
		installing("package a 1\nfile x=1"),
		installing("package b 1\nneeds a\nfile bin/x=two words", "package c 1"),
		installing("package a 2\nneeds d", "package d 1\nneeds c | a"),
		installing("package e 1\nfile y="+strings.Repeat("y", 24), "package f 1\nbars a (>= 2)\nfile f="+strings.Repeat("f", 24)),
		removing("a"), removing("b"), removing("c"), removing("d", "a"), removing("f", "e"), removing("c", "b"),
	}
	x := open(t, api.MinSectors)
	number, done, undone, changed := 1, 0, 0, 0
	for range 5000 {
		number = number * 48271 % 2147483647
		before := told(t, x)
		x.Cut(number/64%9 - 1)
		calls[number%len(calls)](x)
		after := told(t, x)
		lost := x.Lost()
		x.Reopen(number/1024%64, number/32%4-1)
		for x.Lost() {
			x.Reopen(number/2048%64, -1)
		}
		wantWhole(t, x, before, after, lost)
		if before != after {
			changed++
		}
		if lost && before != after && told(t, x) == before {
			undone++
		}
		if lost && before != after && told(t, x) == after {
			done++
		}
	}
	if done < 20 || undone < 20 || changed < 200 {
		t.Errorf("only %d calls changed something; of those that lost the power %d were done and %d were not", changed, done, undone)
	}
}
