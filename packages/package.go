// Package packages: their versions, what they say of themselves, and which of them a choice asks for (P3, P4, the first sentence of P5).
package packages

import (
	"slices"
	"strings"
)

// Package is what a package's text says; its files are in the order of their paths.
type Package struct {
	Name, Version string
	Needs         []Group
	Bars          []Choice
	Files         []File
}

// Group is choices of which one is enough.
type Group []Choice

// Choice asks for a package; without a sign any version will do.
type Choice struct {
	Name, Sign, Version string
}

// File is a path and what stands there.
type File struct {
	Path, Content string
}

// AsksFor: is the package what the choice asks for (P5)?
func (c Choice) AsksFor(p Package) bool { return c.Name == p.Name && c.allows(p.Version) }

func (c Choice) allows(version string) bool {
	order := CompareVersions(version, c.Version)
	switch c.Sign {
	case "<<":
		return order < 0
	case "<=":
		return order <= 0
	case "=":
		return order == 0
	case ">=":
		return order >= 0
	case ">>":
		return order > 0
	}
	return true
}

// clash: can the two paths not both be files? (They are the same, or one is a folder of the other.)
func clash(a, b string) bool {
	return a == b || slices.Contains(Folders(b), a) || slices.Contains(Folders(a), b)
}

// Folders are the folders that a path lies in, the outermost first.
func Folders(path string) []string {
	var folders []string
	for i := range len(path) {
		if strings.HasPrefix(path[i:], partBreak) {
			folders = append(folders, path[:i])
		}
	}
	return folders
}
