// Package plans: which packages go together, and in which order new ones are set up (P5, P6).
package plans

import (
	"maps"
	"slices"

	"parcels/packages"
)

// Set is packages by their names, so that no two have one name.
type Set map[string]packages.Package

// names are in their order, for whatever tells the first.
func (s Set) names() []string { return slices.Sorted(maps.Keys(s)) }

// has: is one of the set what the choice asks for? (What is not in the set comes out without a name, and no choice asks for that.)
func (s Set) has(c packages.Choice) bool { return c.AsksFor(s[c.Name]) }

// with is both sets in a new one.
func (s Set) with(more Set) Set {
	all := Set{}
	maps.Copy(all, s)
	maps.Copy(all, more)
	return all
}
