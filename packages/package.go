// Package packages: their versions, and what they say of themselves (P3, P4).
package packages

import "strings"

// Package is what a package's text says; its files are in the order of their paths.
type Package struct {
	Name, Version string
	Needs         []Group
	Bars          []Choice
	Files         []File
}

// Group is choices of which one is enough.
type Group []Choice

// Choice asks for a package; without a sign any version will do.
type Choice struct {
	Name, Sign, Version string
}

// File is a path and what stands there.
type File struct {
	Path, Content string
}

// clash: can the two paths not both be files? (They are the same, or one is a folder of the other.)
func clash(a, b string) bool { return a == b || isFolder(a, b) || isFolder(b, a) }

func isFolder(folder, path string) bool { return strings.HasPrefix(path, folder+"/") }
