// Package parcels: an installer on a disk: see DOC.md.
package parcels

import (
	"iter"

	"parcels/api"
	"parcels/disks"
	"parcels/packages"
	"parcels/plans"
)

// Store is what is installed on a disk.
type Store struct {
	disk      *disks.Known
	installed plans.Set // as it lies on the disk; never changed: a call that changes what is installed puts another one here
}

// Compare tells which of two versions is the earlier one (P3).
func Compare(a, b string) int { return packages.CompareVersions(a, b) }

// Read tells a package's text in its one form (P4).
func Read(text string) (string, error) {
	p, err := packages.Read(text)
	if err != nil {
		return "", err
	}
	return p.OneForm(), nil
}

// Open finds what is installed on a disk (P10).
func Open(d api.Disk) (*Store, error) {
	disk, texts := disks.Open(d)
	return &Store{disk: disk, installed: plans.Found(texts)}, nil
}

// Plan tells in which order packages would be set up (P6).
func (s *Store) Plan(texts ...string) ([]string, error) { return plans.Plan(s.installed, texts) }

// Install installs packages, all or none (P7).
func (s *Store) Install(texts ...string) error {
	all, err := plans.Install(s.installed, texts, s.disk.Room())
	return s.change(all, err)
}

// Remove removes packages, all or none (P8).
func (s *Store) Remove(names ...string) error {
	left, err := plans.Remove(s.installed, names)
	return s.change(left, err)
}

// change makes this what is installed, unless it was refused.
func (s *Store) change(next plans.Set, refused error) error {
	if refused != nil {
		return refused
	}
	s.disk.Save(next.Texts())
	s.installed = next
	return nil
}

// Packages goes over what is installed: names and texts, by name (P9).
func (s *Store) Packages() iter.Seq2[string, string] {
	// It looks at the store each time it is gone over: what was asked for ahead of an Install tells what is installed behind it, too.
	return func(yield func(string, string) bool) { s.installed.Each(yield) }
}

// Owner tells the package to which a path belongs (P9).
func (s *Store) Owner(path string) (string, bool) { return s.installed.Owner(path) }

// Fill tells how full the disk is (P9).
func (s *Store) Fill() float64 { return float64(s.installed.Size()) / float64(s.disk.Room()) }
