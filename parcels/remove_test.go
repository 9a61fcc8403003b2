package parcels_test

import (
	"testing"

	"parcels/api"
)

func TestRemove(t *testing.T) {
	x := open(t, 20)
	install(t, x, "package a 1\nfile x=1", "package b 1\nneeds a", "package c 1\nneeds b | d", "package d 2")
	// Who would lack something is told: the first by name, of those that are left.
	wantNoRemove(t, x, api.Fault{Kind: api.ErrNeeds, Name: "b"}, "a")
	wantNoRemove(t, x, api.Fault{Kind: api.ErrNeeds, Name: "c"}, "b", "d")
	wantNoRemove(t, x, api.Fault{Kind: api.ErrNeeds, Name: "c"}, "d", "a", "b")
	wantNoRemove(t, x, api.Fault{Kind: api.ErrNeeds, Name: "b"}, "d", "a")
	wantNames(t, x, "a b c d")
	// Another choice of a group is enough.
	remove(t, x, "d")
	wantNames(t, x, "a b c")
	wantNoRemove(t, x, api.Fault{Kind: api.ErrNeeds, Name: "c"}, "b")
	// All that need each other go in one call, in whichever order.
	remove(t, x, "a", "c", "b")
	wantNames(t, x, "")
	wantNoRemove(t, x, api.Fault{Kind: api.ErrAbsent, Name: "a"}, "a")
}

func TestRemoveAbsent(t *testing.T) {
	x := open(t, 16)
	wantNoRemove(t, x, api.Fault{Kind: api.ErrAbsent, Name: "a"}, "a")
	install(t, x, "package a 1", "package b 1\nneeds a", "package c 1")
	for _, c := range []struct {
		names []string
		which int
	}{
		{[]string{"z"}, 0},
		{[]string{""}, 0},
		{[]string{"a "}, 0},
		{[]string{"A"}, 0},
		{[]string{"package a 1"}, 0},
		{[]string{"a", "a"}, 1},
		{[]string{"c", "z"}, 1},
		{[]string{"c", "b", "c"}, 2},
		{[]string{"a", "b", "c", "d"}, 3},
		{[]string{"a", "b", "b", "a"}, 2},
		// The first of several.
		{[]string{"c", "y", "z"}, 1},
		{[]string{"c", "z", "c"}, 1},
		{[]string{"c", "c", "z"}, 1},
		{[]string{"z", "z"}, 0},
		// Ahead of what would be lacked.
		{[]string{"a", "z"}, 1},
		{[]string{"z", "a"}, 0},
		{[]string{"a", "c", "a"}, 2},
	} {
		wantNoRemove(t, x, api.Fault{Kind: api.ErrAbsent, Which: c.which, Name: c.names[c.which]}, c.names...)
	}
	wantNames(t, x, "a b c")
}

// A version that is asked for goes with the package that has it.
func TestRemoveAndVersions(t *testing.T) {
	x := open(t, 16)
	install(t, x, "package a 1\nneeds b (>= 2) | c (<< 2)", "package b 2", "package c 2")
	remove(t, x, "c")
	install(t, x, "package c 1")
	remove(t, x, "b")
	wantNoRemove(t, x, api.Fault{Kind: api.ErrNeeds, Name: "a"}, "c")
	install(t, x, "package b 1")
	wantNoRemove(t, x, api.Fault{Kind: api.ErrNeeds, Name: "a"}, "c")
	remove(t, x, "b")
	install(t, x, "package b 2")
	remove(t, x, "c")
	wantNames(t, x, "a b")
}

// They could not be set up together: something else was there for one of them.
func TestRemoveThoseThatNeedEachOther(t *testing.T) {
	x := open(t, 16)
	wantNoInstall(t, x, api.Fault{Kind: api.ErrCycle, Name: "a"}, "package a 1\nneeds b | c", "package b 1\nneeds a")
	install(t, x, "package c 1")
	install(t, x, "package a 1\nneeds b | c", "package b 1\nneeds a")
	remove(t, x, "c")
	wantNoRemove(t, x, api.Fault{Kind: api.ErrNeeds, Name: "b"}, "a")
	wantNoRemove(t, x, api.Fault{Kind: api.ErrNeeds, Name: "a"}, "b")
	remove(t, x, "b", "a")
	wantNames(t, x, "")
}

func TestRemoveWhatNeedsItself(t *testing.T) {
	x := open(t, 16)
	install(t, x, "package a 1\nneeds a (= 1)", "package b 1\nneeds a | b")
	remove(t, x, "a")
	wantNames(t, x, "b")
	remove(t, x, "b")
	wantNames(t, x, "")
}

// Who barred is gone, and bars no more.
func TestRemoveWhatBars(t *testing.T) {
	x := open(t, 16)
	install(t, x, "package a 1\nbars b")
	wantNoInstall(t, x, api.Fault{Kind: api.ErrBars, Name: "a"}, "package b 1")
	remove(t, x, "a")
	install(t, x, "package b 1")
	wantNoInstall(t, x, api.Fault{Kind: api.ErrBars, Name: "a"}, "package a 1\nbars b")
	wantNames(t, x, "b")
}

// What was removed may be installed again, as it was or otherwise.
func TestRemoveAndInstallAgain(t *testing.T) {
	x := open(t, 16)
	first := "package a 1\nneeds b\nfile x=1"
	install(t, x, first, "package b 1")
	before := told(t, x)
	for range 100 {
		remove(t, x, "a")
		wantNames(t, x, "b")
		install(t, x, first)
	}
	remove(t, x, "b", "a")
	install(t, x, "package b 1", first)
	if after := told(t, x); after != before {
		t.Errorf("P7: installed again\n%s\nis\n%s", before, after)
	}
	remove(t, x, "a")
	install(t, x, "package a 2\nfile x/y=1")
	wantOwners(t, x, map[string]string{"x": "", "x/y": "a"})
}
