package disks

import (
	"slices"
	"strings"
	"testing"

	"parcels/api"
)

// step is a write, or a Sync (then data is nil).
type step struct {
	n    int
	data []byte
}

// logged is a disk that knows what was done to it.
type logged struct {
	t       *testing.T
	sectors [][]byte
	steps   []step
}

func newDisk(t *testing.T, sectors int) *logged {
	d := &logged{t: t}
	for range sectors {
		d.sectors = append(d.sectors, make([]byte, api.SectorSize))
	}
	return d
}

func (d *logged) Sectors() int { return len(d.sectors) }

func (d *logged) Read(n int) []byte {
	if n < 0 || n >= len(d.sectors) {
		d.t.Fatalf("read of sector %d of %d", n, len(d.sectors))
	}
	return slices.Clone(d.sectors[n])
}

func (d *logged) Write(n int, data []byte) {
	if n < 0 || n >= len(d.sectors) || len(data) > api.SectorSize {
		d.t.Fatalf("%d bytes written to sector %d of %d", len(data), n, len(d.sectors))
	}
	d.put(step{n, append([]byte{}, data...)})
	d.steps = append(d.steps, step{n, append([]byte{}, data...)})
}

func (d *logged) Sync() { d.steps = append(d.steps, step{}) }

// put lets a write take hold.
func (d *logged) put(s step) {
	d.sectors[s.n] = make([]byte, api.SectorSize)
	copy(d.sectors[s.n], s.data)
}

// copied is the disk as it is, with nothing done to it yet.
func (d *logged) copied() *logged {
	c := &logged{t: d.t}
	for _, s := range d.sectors {
		c.sectors = append(c.sectors, slices.Clone(s))
	}
	return c
}

// cut is the disk as the power leaves it behind the steps: all that was synced, and of the rest those writes for which the choice says so.
func (d *logged) cut(steps []step, choice func(i int) bool) *logged {
	c := d.copied()
	synced := 0
	for i, s := range steps {
		if s.data == nil {
			synced = i
		}
	}
	for i, s := range steps {
		if s.data != nil && (i < synced || choice(i-synced)) {
			c.put(s)
		}
	}
	return c
}

// choices are all of those writes that have not taken hold, where they are few; else some of them.
func choices(steps []step) []func(int) bool {
	late := 0
	for _, s := range steps {
		late++
		if s.data == nil {
			late = 0
		}
	}
	list := []func(int) bool{
		func(int) bool { return false },
		func(int) bool { return true },
		func(i int) bool { return i%2 == 0 },
		func(i int) bool { return i%2 == 1 },
		func(i int) bool { return i < late/2 },
		func(i int) bool { return i > late/2 },
	}
	if late <= 6 {
		for mask := range 1 << (late + 1) {
			list = append(list, func(i int) bool { return mask>>i&1 == 1 })
		}
	}
	return list
}

func wantTexts(t *testing.T, d *logged, want ...[]string) {
	t.Helper()
	d.steps = nil
	_, got := Open(d)
	if len(d.steps) > 0 {
		t.Fatalf("P10: Open wrote: %v", d.steps)
	}
	if !slices.ContainsFunc(want, func(w []string) bool { return slices.Equal(got, w) }) {
		t.Fatalf("P10: on the disk are %q, want one of %q", got, want)
	}
}

// many are short texts, with so many bytes together.
func many(size int) []string {
	var texts []string
	for size > 21 {
		texts = append(texts, strings.Repeat("t", 11))
		size -= 11
	}
	return append(texts, strings.Repeat("u", size))
}

// anyTexts are lists of texts that a disk has room for: no, few, many bytes, about whole sectors, and all of the room.
func anyTexts(sectors int) [][]string {
	room := 24 * (sectors - 8)
	return [][]string{
		nil,
		{"package a 1"},
		{strings.Repeat("a", 63)}, {strings.Repeat("b", 64)}, {strings.Repeat("c", 65)}, {strings.Repeat("d", 128)}, {strings.Repeat("e", 129)},
		{"one\ntwo", "\x00\x00", "\xff \x00", "x\x00"},
		many(room), {strings.Repeat("f", room)}, many(room / 2),
	}
}

// Whatever lay there, what was saved last is found, by the next Open and the one behind it.
func TestSaveAndOpen(t *testing.T) {
	for sectors := api.MinSectors; sectors <= api.MaxSectors; sectors++ {
		d := newDisk(t, sectors)
		wantTexts(t, d, nil)
		k, _ := Open(d)
		if k.Room() != 24*(sectors-8) {
			t.Fatalf("P7: a disk of %d sectors has room for %d", sectors, k.Room())
		}
		for range 3 {
			for i, texts := range anyTexts(sectors) {
				k.Save(texts)
				wantTexts(t, d, texts)
				wantTexts(t, d, texts)
				if i%3 == 0 {
					k, _ = Open(d)
				}
			}
		}
	}
}

// The power goes at each Write and each Sync of a Save, with each choice of the writes that took hold: all texts are the old ones, or all the new ones; and they can be saved anew.
func TestPowerInSave(t *testing.T) {
	for _, sectors := range []int{16, 17, 18, 33, 255, 256} {
		lists := anyTexts(sectors)
		if sectors > 100 {
			lists = lists[7:] // the long ones, and not so many of them: each has a great many steps
		}
		for _, old := range lists {
			for _, next := range lists {
				d := newDisk(t, sectors)
				k, _ := Open(d)
				k.Save([]string{"older"})
				k.Save(old)
				before := d.copied()
				d.steps = nil
				k.Save(next)
				wantEveryCut(t, before, d.steps, old, next)
			}
		}
	}
}

func wantEveryCut(t *testing.T, before *logged, steps []step, old, next []string) {
	t.Helper()
	for done := range len(steps) + 1 {
		for _, choice := range choices(steps[:done]) {
			d := before.cut(steps[:done], choice)
			if done == len(steps) {
				wantTexts(t, d, next)
			} else {
				wantTexts(t, d, old, next)
			}
			k, _ := Open(d)
			k.Save([]string{"newer"})
			wantTexts(t, d, []string{"newer"})
		}
	}
}

// The power goes in one Save after the other: what was there ahead of it is there still, or what it saved.
func TestPowerInManySaves(t *testing.T) {
	for _, sectors := range []int{16, 17, 40, 256} {
		d := newDisk(t, sectors)
		lists := anyTexts(sectors)
		number := 1
		for range 2000 {
			number = number * 48271 % 2147483647
			k, old := Open(d)
			next := lists[number%len(lists)]
			before := d.copied()
			d.steps = nil
			k.Save(next)
			steps := d.steps[:number/16%(len(d.steps)+1)]
			d = before.cut(steps, func(i int) bool { return number>>(i%24)&1 == 1 })
			wantTexts(t, d, old, next)
		}
	}
}

// odd is a disk of which everything is odd.
type odd struct {
	sectors int
	sector  []byte
}

func (d odd) Sectors() int      { return d.sectors }
func (d odd) Read(int) []byte   { return d.sector }
func (d odd) Write(int, []byte) {}
func (d odd) Sync()             {}

// Nothing panics where there is no disk, or one that no store has written to.
func TestOddDisks(t *testing.T) {
	k, texts := Open(nil)
	k.Save(nil)
	k.Save([]string{"package a 1"})
	if len(texts) > 0 || k.Room() > 0 || k.Sectors() != 0 {
		t.Errorf("P10: of no disk: %q, room %d", texts, k.Room())
	}
	for _, sectors := range []int{-1000, -1, 0, 1, 2, 3, 8, 15, 16, 256, 257, 100000} {
		for _, sector := range []string{"", "\x01", "\x00\xff", "\x03\xff\xff\xff", strings.Repeat("\xff", 64), strings.Repeat("\n", 64), "\x00\x00\x00\x40" + strings.Repeat("x", 60), strings.Repeat("\x01", 1000)} {
			k, _ := Open(odd{sectors, []byte(sector)})
			k.Save(nil)
			k.Save([]string{"package a 1", "package b 1"})
		}
	}
}
