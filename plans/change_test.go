package plans

import (
	"reflect"
	"slices"
	"strings"
	"testing"

	"parcels/api"
	"parcels/packages"
)

// wantSet: what came out is the want, or the fault; what went in is as it was.
func wantSet(t *testing.T, call string, got Set, err error, want Set, fault api.Fault) {
	t.Helper()
	if faultOf(err) != fault || (err == nil) != (fault.Kind == api.OK) {
		t.Fatalf("%s: %v, want %v", call, err, fault)
	}
	if err != nil && got != nil {
		t.Fatalf("P1: %s: %v beside an error", call, got)
	}
	if err == nil && !(len(got) == 0 && len(want) == 0) && !reflect.DeepEqual(got, want) {
		t.Fatalf("%s: %v, want %v", call, got, want)
	}
}

// without is the packages of a list but those of some names.
func without(list []packages.Package, names []string) []packages.Package {
	return slices.DeleteFunc(slices.Clone(list), func(p packages.Package) bool { return slices.Contains(names, p.Name) })
}

// removal is P8 once more.
func removal(installed []packages.Package, names []string) (Set, api.Fault) {
	for which, name := range names {
		there := slices.ContainsFunc(installed, func(p packages.Package) bool { return p.Name == name })
		if !there || slices.Contains(names[:which], name) {
			return nil, api.Fault{Kind: api.ErrAbsent, Which: which, Name: name}
		}
	}
	left := without(installed, names)
	if f := setWrong(left); f.Kind == api.ErrNeeds {
		return nil, f
	}
	return setOf(left), api.Fault{}
}

// anyNames are lists of names to remove of three packages: each some, in each order, and some that are wrong.
func anyNames() [][]string {
	return [][]string{
		{}, {"a"}, {"b"}, {"c"},
		{"a", "b"}, {"b", "a"}, {"a", "c"}, {"c", "a"}, {"b", "c"}, {"c", "b"},
		{"a", "b", "c"}, {"c", "a", "b"}, {"b", "c", "a"},
		{"z"}, {"a", "z"}, {"b", "b"}, {"c", "a", "c"}, {"a", "b", "c", "a"}, {""},
	}
}

// Of every three packages that go together, or fewer, any may be removed as P8 says.
func TestRemoveOfAnyThree(t *testing.T) {
	answers := map[api.Errno]int{}
	forAnySplit(t, [][]string{variants("a", "b", "c"), variants("b", "c", "a"), variants("c", "a", "b")}, func(texts, others []string) {
		if len(others) > 0 {
			return
		}
		there := read(t, texts)
		installed := setOf(there)
		for _, names := range anyNames() {
			want, fault := removal(there, names)
			got, err := Remove(installed, names)
			wantSet(t, "P8: Remove of "+strings.Join(names, " ")+" of "+strings.Join(texts, "; "), got, err, want, fault)
			answers[fault.Kind]++
		}
		if !reflect.DeepEqual(installed, setOf(there)) {
			t.Fatalf("P1: Remove changed what it was given: %v, was %v", installed, there)
		}
	})
	wantKinds(t, answers, api.OK, api.ErrAbsent, api.ErrNeeds)
}

// Every two packages, each of them absent, installed or new, are installed as P7 says, in rooms about their size.
func TestInstallOfAnyTwo(t *testing.T) {
	answers := map[api.Errno]int{}
	forAnySplit(t, [][]string{variants("a", "b", "a"), variants("b", "a", "b")}, func(installed, texts []string) {
		there, added := read(t, installed), read(t, texts)
		_, planned := slowPlan(there, added)
		size := len(strings.Join(slices.Concat(installed, texts), ""))
		for room := size - 2; room <= size+2; room++ {
			fault := planned
			if fault.Kind == api.OK && size > room {
				fault.Kind = api.ErrSpace
			}
			before := setOf(there)
			got, err := Install(before, texts, room)
			wantSet(t, "P7: Install of "+strings.Join(texts, "; ")+" beside "+strings.Join(installed, "; "), got, err, setOf(slices.Concat(there, added)), fault)
			if !reflect.DeepEqual(before, setOf(there)) {
				t.Fatalf("P1: Install changed what it was given: %v, was %v", before, there)
			}
			answers[fault.Kind]++
		}
	})
	wantKinds(t, answers, api.OK, api.ErrNeeds, api.ErrBars, api.ErrOwner, api.ErrCycle, api.ErrSpace)
}

// What lies on a disk is found as it was, though Plan would refuse it; texts that no store wrote are nothing.
func TestFound(t *testing.T) {
	for _, texts := range [][]string{
		nil,
		{"package a 1"},
		{"package a 1\nneeds b | c", "package b 1\nneeds a"},
		{"package a 1\nneeds a\nbars a (>> 1)\nfile x=", "package b 1\nfile y=1\nfile z/y=\x00"},
	} {
		found := Found(texts)
		if want := setOf(read(t, texts)); !reflect.DeepEqual(found, want) || !slices.Equal(found.Texts(), texts) {
			t.Errorf("P10: of %q are found %v, want %v", texts, found, want)
		}
	}
	for _, texts := range [][]string{
		{""},
		{"package a 1", ""},
		{"package a 1", "package b 1\n\n"},
		{"package a 1", "package b 1", "package a 1"},
		{"package a 1", strings.Repeat("\x00", api.MaxText+1)},
	} {
		if found := Found(texts); found == nil || len(found) > 0 {
			t.Errorf("P10: of %q are found %v", texts, found)
		}
	}
}
