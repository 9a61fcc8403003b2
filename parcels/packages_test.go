package parcels_test

import (
	"iter"
	"slices"
	"testing"

	"parcels/api"
	"parcels/parcels"
)

func openStore(t *testing.T, texts ...string) *parcels.Store {
	t.Helper()
	s, err := parcels.Open(noughts(api.MinSectors))
	if s == nil || err != nil {
		t.Fatalf("P10: Open = %v, %v", s, err)
	}
	if err := s.Install(texts...); err != nil {
		t.Fatalf("P7: Install(%q) = %v", texts, err)
	}
	return s
}

// pairs are names and texts by turns, at most so many pairs.
func pairs(all iter.Seq2[string, string], most int) []string {
	var list []string
	for name, text := range all {
		list = append(list, name, text)
		if len(list) == 2*most {
			break
		}
	}
	return list
}

func TestPackages(t *testing.T) {
	s := openStore(t)
	if got := pairs(s.Packages(), -1); len(got) != 0 {
		t.Errorf("P9: Packages of nothing: %q", got)
	}
	// Names by their bytes, texts in their one form.
	s = openStore(t, "package b 1\nfile z=1\nfile bin/x=two words\n", "package a9 1", "package a10 1\nneeds a9 | x, b (>= 1)\nbars y", "package a- 1\n", "package a 1~a+B.-")
	want := []string{
		"a", "package a 1~a+B.-",
		"a-", "package a- 1",
		"a10", "package a10 1\nneeds a9 | x, b (>= 1)\nbars y",
		"a9", "package a9 1",
		"b", "package b 1\nfile bin/x=two words\nfile z=1",
	}
	all := s.Packages()
	for _, seq := range []iter.Seq2[string, string]{all, all, s.Packages()} {
		if got := pairs(seq, -1); !slices.Equal(got, want) {
			t.Errorf("P9: Packages: %q, want %q", got, want)
		}
	}
	// Stopped anywhere, and gone over again.
	for most := 1; most <= len(want)/2; most++ {
		if got := pairs(all, most); !slices.Equal(got, want[:2*most]) {
			t.Errorf("P9: Packages, stopped: %q, want %q", got, want[:2*most])
		}
	}
	// One within another.
	for name := range all {
		for other := range all {
			if other == name {
				break
			}
		}
		if got := pairs(all, -1); !slices.Equal(got, want) {
			t.Errorf("P9: Packages at %s: %q, want %q", name, got, want)
		}
	}
}

// Nothing is told behind a no.
func TestPackagesStopWhenTold(t *testing.T) {
	all := openStore(t, "package a 1", "package b 1", "package c 1").Packages()
	for stop := range 3 {
		asked := 0
		all(func(string, string) bool {
			asked++
			return asked <= stop
		})
		if asked != stop+1 {
			t.Errorf("P9: told %d times, %d behind a no", asked, asked-stop-1)
		}
	}
	next, end := iter.Pull2(all)
	name, text, ok := next()
	end()
	if name != "a" || text != "package a 1" || !ok {
		t.Errorf("P9: pulled %q, %q, %v", name, text, ok)
	}
	if name, text, ok := next(); name != "" || text != "" || ok {
		t.Errorf("P9: pulled behind the end: %q, %q, %v", name, text, ok)
	}
}

// What is installed when it is gone over is told.
func TestPackagesOfAStoreThatChanges(t *testing.T) {
	s := openStore(t, "package a 1", "package b 1")
	all := s.Packages()
	if err := s.Install("package c 1"); err != nil {
		t.Fatal(err)
	}
	if got := pairs(all, -1); !slices.Equal(got, []string{"a", "package a 1", "b", "package b 1", "c", "package c 1"}) {
		t.Errorf("P9: Packages behind an Install: %q", got)
	}
	// Each may be removed as it is told.
	var names []string
	for name := range all {
		names = append(names, name)
		if err := s.Remove(name); err != nil {
			t.Fatalf("P8: Remove(%q) = %v", name, err)
		}
	}
	if !slices.Equal(names, []string{"a", "b", "c"}) || len(pairs(all, -1)) != 0 {
		t.Errorf("P9: removed %q, left are %q", names, pairs(all, -1))
	}
}
