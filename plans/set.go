// Package plans: which packages go together, in which order new ones are set up, and what is installed behind an Install or a Remove (P5 to P9).
package plans

import (
	"maps"
	"slices"

	"parcels/packages"
)

// Set is packages by their names, so that no two have one name.
type Set map[string]packages.Package

// names are in their order, for whatever tells the first.
func (s Set) names() []string { return slices.Sorted(maps.Keys(s)) }

// has: is one of the set what the choice asks for? (What is not in the set comes out without a name, and no choice asks for that.)
func (s Set) has(c packages.Choice) bool { return c.AsksFor(s[c.Name]) }

// Each goes over names and one forms, by name, till it is told to stop.
func (s Set) Each(yield func(name, text string) bool) {
	for _, name := range s.names() {
		if !yield(name, s[name].OneForm()) {
			return
		}
	}
}

// Texts are the one forms, by name.
func (s Set) Texts() []string {
	var texts []string
	for _, text := range s.Each {
		texts = append(texts, text)
	}
	return texts
}

// Owner is the package to which a path belongs, if there is one. (No path of a set that goes together belongs to two.)
func (s Set) Owner(path string) (string, bool) {
	for name, p := range s {
		for _, f := range p.Files {
			if f.Path == path {
				return name, true
			}
		}
	}
	return "", false
}

// Size is how many bytes the one forms have, together.
func (s Set) Size() int {
	size := 0
	for _, p := range s {
		size += len(p.OneForm())
	}
	return size
}

// with is both sets in a new one.
func (s Set) with(more Set) Set {
	all := Set{}
	maps.Copy(all, s)
	maps.Copy(all, more)
	return all
}
