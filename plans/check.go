package plans

import (
	"parcels/api"
	"parcels/packages"
)

// check is something that all sets are checked for. No name and no path is empty: an empty first says that nothing is wrong.
type check struct {
	kind  api.Errno
	first func(Set) string
}

// checks are in the order in which their errors are told.
func checks() []check {
	return []check{
		{api.ErrNeeds, Set.firstLacking},
		{api.ErrBars, Set.firstBarring},
		{api.ErrOwner, Set.firstShared},
	}
}

// check tells why the packages of a set do not go together (P5).
func (s Set) check() error {
	for _, c := range checks() {
		if name := c.first(s); name != "" {
			return &api.Fault{Kind: c.kind, Name: name}
		}
	}
	return nil
}

// firstLacking is the first package, by name, that lacks something.
func (s Set) firstLacking() string {
	for _, name := range s.names() {
	groups:
		for _, group := range s[name].Needs {
			for _, choice := range group {
				if s.has(choice) {
					continue groups
				}
			}
			return name
		}
	}
	return ""
}

// firstBarring is the first package, by name, that bars another.
func (s Set) firstBarring() string {
	for _, name := range s.names() {
		for _, choice := range s[name].Bars {
			if choice.Name != name && s.has(choice) {
				return name
			}
		}
	}
	return ""
}

// firstShared is the first path that belongs to two packages, or is a folder of another's path. (Paths of one package never clash: Read sees to it.)
func (s Set) firstShared() string {
	first := ""
	found := func(path string) {
		if first == "" || path < first {
			first = path
		}
	}
	owners := s.owners()
	for path, count := range owners {
		if count > 1 {
			found(path)
		}
		for _, folder := range packages.Folders(path) {
			if owners[folder] > 0 {
				found(folder)
			}
		}
	}
	return first
}

// owners is to how many packages each path belongs.
func (s Set) owners() map[string]int {
	owners := map[string]int{}
	for _, p := range s {
		for _, f := range p.Files {
			owners[f.Path]++
		}
	}
	return owners
}
