// Package disks: texts that lie on a disk, and are changed as a whole or not at all, whenever the power goes (P10).
package disks

import (
	"strings"

	"parcels/api"
)

// Known is what is known of a disk. Its first sector is the head, which tells in which of two halves of the others the texts lie. Others are written into the half that is free; only then the head, which takes hold as a whole, makes them count.
type Known struct {
	api.Disk
	half int // the one that counts: 0 or 1
}

// none is a disk without sectors.
type none struct{}

func (none) Sectors() int      { return 0 }
func (none) Read(int) []byte   { return nil }
func (none) Write(int, []byte) {}
func (none) Sync()             {}

// Open finds the texts that lie on a disk; it writes nothing, so that no power can go in its middle. (No disk at all is taken for one without sectors, so that nothing need panic.)
func Open(d api.Disk) (*Known, []string) {
	if d == nil {
		d = none{}
	}
	k := &Known{Disk: d}
	half, size := readHead(k.sector(0))
	k.half = half
	return k, split(k.load(size))
}

// Room is how many bytes of packages the disk may hold (P7).
func (k *Known) Room() int { return 24 * (k.Sectors() - 8) }

// Save puts these texts in the place of those that lie on the disk.
func (k *Known) Save(texts []string) {
	all := join(texts)
	free := 1 - k.half
	k.store(free, all)
	// All of the free half must have taken hold ahead of the head that makes it count.
	k.Sync()
	k.Write(0, writeHead(free, len(all)))
	k.Sync()
	k.half = free
}

// start is a half's first sector.
func (k *Known) start(half int) int { return 1 + half*k.length() }

// length is how many sectors a half has. It holds all of the room, and what stands between texts: as none of these is shorter than "package a 1", 24 bytes of them lie in 29 at the most, and a half has 32 where the room has 24.
func (k *Known) length() int { return (k.Sectors() - 1) / 2 }

func (k *Known) store(half int, all string) {
	for i := range sectorsOf(len(all)) {
		from := i * api.SectorSize
		k.Write(k.start(half)+i, []byte(all[from:min(from+api.SectorSize, len(all))]))
	}
}

// load is the first bytes of the half that counts. (A head that no store wrote may ask for more than there are; those are noughts.)
func (k *Known) load(size int) string {
	var all strings.Builder
	for i := range sectorsOf(size) {
		sector := k.sector(k.start(k.half) + i)
		all.Write(sector[:])
	}
	return all.String()[:size]
}

// sector has its size whatever the disk answers.
func (k *Known) sector(n int) [api.SectorSize]byte {
	var sector [api.SectorSize]byte
	copy(sector[:], k.Read(n))
	return sector
}

// sectorsOf is how many sectors so many bytes take.
func sectorsOf(size int) int { return (size + api.SectorSize - 1) / api.SectorSize }
