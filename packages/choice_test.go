package packages

import (
	"slices"
	"testing"
)

func TestAsksForVersions(t *testing.T) {
	for _, c := range []struct {
		sign                 string
		earlier, same, later bool
	}{
		{"", true, true, true},
		{"<<", true, false, false},
		{"<=", true, true, false},
		{"=", false, true, false},
		{">=", false, true, true},
		{">>", false, false, true},
	} {
		choice := Choice{"a", c.sign, "1.10"}
		for _, v := range []struct {
			version string
			want    bool
		}{
			{"1.9", c.earlier}, {"1.10~rc1", c.earlier}, {"0", c.earlier},
			{"1.10", c.same}, {"01.010", c.same},
			{"1.11", c.later}, {"1.10-1", c.later}, {"2", c.later},
		} {
			if got := choice.AsksFor(Package{Name: "a", Version: v.version}); got != v.want {
				t.Errorf("P5: a choice (%s 1.10), version %s: %v, want %v", c.sign, v.version, got, v.want)
			}
		}
	}
}

func TestAsksForNames(t *testing.T) {
	for _, choice := range []Choice{{Name: "a"}, {"a", "=", "1"}, {"a", "<=", "1"}} {
		for _, name := range []string{"b", "aa", "a-", "A", ""} {
			if choice.AsksFor(Package{Name: name, Version: "1"}) {
				t.Errorf("P5: %v asks for %q", choice, name)
			}
		}
	}
}

func TestFolders(t *testing.T) {
	for _, c := range []struct {
		path string
		want []string
	}{
		{"x", nil},
		{"x/y", []string{"x"}},
		{"x/y/z", []string{"x", "x/y"}},
		{"x.y/z", []string{"x.y"}},
	} {
		if got := Folders(c.path); !slices.Equal(got, c.want) {
			t.Errorf("P4: the folders of %q: %q, want %q", c.path, got, c.want)
		}
	}
}
