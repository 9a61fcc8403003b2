// Package parcels: an installer on a disk: see DOC.md.
package parcels

import (
	"iter"

	"parcels/api"
	"parcels/packages"
	"parcels/plans"
)

// Store is what is installed on a disk.
type Store struct {
	installed plans.Set // never changed: a call that changes what is installed puts another one here
	room      int
}

// Compare tells which of two versions is the earlier one (P3).
func Compare(a, b string) int { return packages.CompareVersions(a, b) }

// Read tells a package's text in its one form (P4).
func Read(text string) (string, error) {
	p, err := packages.Read(text)
	if err != nil {
		return "", err
	}
	return p.OneForm(), nil
}

// Open finds what is installed on a disk (P10).
func Open(d api.Disk) (*Store, error) {
	return &Store{installed: plans.Set{}, room: room(d)}, nil
}

// room is how many bytes of packages a disk may hold. (No disk at all has no sectors, so that Open need not panic.)
func room(d api.Disk) int {
	sectors := 0
	if d != nil {
		sectors = d.Sectors()
	}
	return 24 * (sectors - 8)
}

// Plan tells in which order packages would be set up (P6).
func (s *Store) Plan(texts ...string) ([]string, error) { return plans.Plan(s.installed, texts) }

// Install installs packages, all or none (P7).
func (s *Store) Install(texts ...string) error {
	all, err := plans.Install(s.installed, texts, s.room)
	if err != nil {
		return err
	}
	s.installed = all
	return nil
}

// Remove removes packages, all or none (P8).
func (s *Store) Remove(names ...string) error {
	left, err := plans.Remove(s.installed, names)
	if err != nil {
		return err
	}
	s.installed = left
	return nil
}

// Packages goes over what is installed: names and texts, by name (P9).
func (s *Store) Packages() iter.Seq2[string, string] {
	// It looks at the store each time it is gone over: what was asked for ahead of an Install tells what is installed behind it, too.
	return func(yield func(string, string) bool) { s.installed.Each(yield) }
}

// Owner tells the package to which a path belongs (P9).
func (s *Store) Owner(path string) (string, bool) { return s.installed.Owner(path) }

// Fill tells how full the disk is (P9).
func (s *Store) Fill() float64 { return float64(s.installed.Size()) / float64(s.room) }
