package parcels_test

import (
	"slices"
	"strconv"
	"strings"
	"testing"

	"parcels/api"
	"parcels/parcels"
	"parcels/plain"
)

// someDisks are numbers of sectors: the least, the most, and some between.
func someDisks() []int { return []int{api.MinSectors, 17, 18, 33, 100, 255, api.MaxSectors} }

func reopen(t *testing.T, x *plain.Session) {
	t.Helper()
	if f := x.Reopen(0, -1); f != (plain.Fault{}) {
		t.Fatalf("P10: Open = %v", f)
	}
}

// wantKept: opened anew, any number of times, the disk has all that the store told.
func wantKept(t *testing.T, x *plain.Session) {
	t.Helper()
	before := told(t, x)
	for range 3 {
		reopen(t, x)
		if after := told(t, x); after != before {
			t.Fatalf("P10: opened anew it tells\n%s\nand ahead of that told\n%s", after, before)
		}
	}
}

func TestFoundByTheNextStore(t *testing.T) {
	for _, sectors := range someDisks() {
		x := open(t, sectors)
		wantKept(t, x)
		for _, step := range []func(){
			func() { install(t, x, "package a 1\nfile x=1") },
			func() { install(t, x, "package c 1\nneeds a", "package b 2\nneeds c | z\nfile x2/y=two words\n") },
			func() { remove(t, x, "b") },
			func() { install(t, x) },
			func() { remove(t, x) },
			func() { install(t, x, "package b 1\nbars z (>= 1)\nfile y=\nfile bin/x=1") },
			func() { remove(t, x, "c", "a") },
			func() { remove(t, x, "b") },
			func() { wantNames(t, x, "") },
			func() { install(t, x, "package a 2\nfile x/y/z=1") },
		} {
			step()
			wantKept(t, x)
		}
		wantNames(t, x, "a")
		wantOwners(t, x, map[string]string{"x/y/z": "a", "x": "", "bin/x": "", "y": ""})
		wantFill(t, x, len("package a 2\nfile x/y/z=1"), 24*(sectors-8))
	}
}

// A store that found what is installed answers as the one that installed it.
func TestErrorsBehindOpen(t *testing.T) {
	x := open(t, api.MinSectors)
	install(t, x, "package a 1\nneeds b (>= 2)\nbars k (>> 1)\nfile x=1", "package b 2\nfile y/z=")
	reopen(t, x)
	for _, c := range []struct {
		fault api.Fault
		texts []string
	}{
		{api.Fault{Kind: api.ErrForm, Which: 1, Line: 2}, []string{"package c 1", "package d 1\nneeds"}},
		{api.Fault{Kind: api.ErrTwice, Name: "a"}, []string{"package a 1"}},
		{api.Fault{Kind: api.ErrNeeds, Name: "c"}, []string{"package c 1\nneeds b (<< 2)"}},
		{api.Fault{Kind: api.ErrBars, Name: "a"}, []string{"package k 2"}},
		{api.Fault{Kind: api.ErrOwner, Name: "x"}, []string{"package c 1\nfile x/y=1"}},
		{api.Fault{Kind: api.ErrCycle, Name: "c"}, []string{"package d 1\nneeds c", "package c 1\nneeds d"}},
		{api.Fault{Kind: api.ErrSpace}, sized(192)},
	} {
		wantNoInstall(t, x, c.fault, c.texts...)
		wantKept(t, x)
	}
	wantNoRemove(t, x, api.Fault{Kind: api.ErrNeeds, Name: "a"}, "b")
	wantKept(t, x)
	wantNoRemove(t, x, api.Fault{Kind: api.ErrAbsent, Which: 1, Name: "c"}, "a", "c")
	wantKept(t, x)
	wantNames(t, x, "a b")
	remove(t, x, "b", "a")
	wantKept(t, x)
	wantNames(t, x, "")
}

// What is installed may wait for each other, where what made an end of that is gone; it is found all the same.
func TestFoundInACircle(t *testing.T) {
	x := open(t, api.MinSectors)
	install(t, x, "package c 1")
	install(t, x, "package a 1\nneeds b | c", "package b 1\nneeds a")
	remove(t, x, "c")
	wantKept(t, x)
	wantNames(t, x, "a b")
	wantNoRemove(t, x, api.Fault{Kind: api.ErrNeeds, Name: "b"}, "a")
	remove(t, x, "a", "b")
	wantKept(t, x)
}

// A file's content may have all bytes but line breaks.
func TestFoundWithOddContents(t *testing.T) {
	contents := []string{"", " ", "=", "\x00", "\x00\x00\x00", "x\x00", "\x00x", "\r", "\r\r", "\xff\xfe", "package b 1", "é", strings.Repeat("\x00", api.MaxContent)}
	for c := range 256 {
		if c != '\n' {
			contents = append(contents, string([]byte{byte(c)}), "a"+string([]byte{byte(c), byte(c)}))
		}
	}
	for _, one := range contents {
		x := open(t, api.MinSectors)
		texts := []string{"package a 1\nfile x=" + one + "\nfile y=" + one, "package b 1\nfile f=" + one}
		install(t, x, texts...)
		wantKept(t, x)
		if got, _ := x.Packages(); !slices.Equal(got, texts) {
			t.Fatalf("P10: found are %q, want %q", got, texts)
		}
	}
}

// tiny are as many packages as can be, of just so many bytes together (27 at the least).
func tiny(size int) []string {
	const letters, marks = "abcdefghijklmnopqrstuvwxyz", "0123456789-abcdefghijklmnopqrstuvwxyz"
	var names, texts []string
	for _, first := range letters {
		names = append(names, string(first))
	}
	for _, first := range letters {
		for _, second := range marks {
			names = append(names, string(first)+string(second))
		}
	}
	for i := 0; size > 0; i++ {
		text := "package " + names[i] + " 1"
		if size < 27 {
			text += strings.Repeat("0", size-len(text))
		}
		texts = append(texts, text)
		size -= len(text)
	}
	return texts
}

// namesOf are the names of packages' texts.
func namesOf(texts []string) []string {
	var names []string
	for _, text := range texts {
		names = append(names, strings.Fields(text)[1])
	}
	return names
}

// A size just at the room, of few packages and of many, is installed, removed and installed anew, over and over, on a disk of any number of sectors.
func TestFullOverAndOver(t *testing.T) {
	for sectors := api.MinSectors; sectors <= api.MaxSectors; sectors++ {
		room := 24 * (sectors - 8)
		x := open(t, sectors)
		for range 2 {
			for _, texts := range [][]string{tiny(room), sized(room)} {
				slices.Sort(texts)
				install(t, x, texts...)
				reopen(t, x)
				if got, ok := x.Packages(); !slices.Equal(got, texts) || !ok {
					t.Fatalf("P10: on %d sectors, full, are found %q, want %q", sectors, got, texts)
				}
				wantFill(t, x, room, room)
				if f := x.Install([]string{"package zzz 1"}); f != (plain.Fault{Kind: int(api.ErrSpace)}) {
					t.Fatalf("P7: Install on a full disk of %d sectors: %v", sectors, f)
				}
				remove(t, x, namesOf(texts)...)
				reopen(t, x)
				wantNames(t, x, "")
				wantFill(t, x, 0, room)
			}
		}
	}
}

// On a full disk one package after the other changes, and the rest stays as it is.
func TestFullDiskChanges(t *testing.T) {
	for _, sectors := range someDisks() {
		room := 24 * (sectors - 8)
		x := open(t, sectors)
		texts := sized(room)
		install(t, x, texts...)
		for round := range 20 {
			which := round * 7 % len(texts)
			name := namesOf(texts)[which]
			remove(t, x, name)
			reopen(t, x)
			texts[which] = "package " + name + " " + strconv.Itoa(2+round%8) + texts[which][len("package "+name+" 1"):]
			install(t, x, texts[which])
			reopen(t, x)
			if got, ok := x.Packages(); !slices.Equal(got, texts) || !ok {
				t.Fatalf("P10: on %d sectors are found %q, want %q", sectors, got, texts)
			}
			wantFill(t, x, room, room)
		}
	}
}

// sheet is a disk of so many sectors of any bytes.
type sheet [][]byte

func (d sheet) Sectors() int { return len(d) }
func (d sheet) Read(n int) []byte {
	if n < 0 || n >= len(d) {
		return make([]byte, api.SectorSize)
	}
	return slices.Clone(d[n])
}
func (d sheet) Write(n int, data []byte) {
	if n >= 0 && n < len(d) {
		d[n] = make([]byte, api.SectorSize)
		copy(d[n], data)
	}
}
func (d sheet) Sync() {}

// filled is a disk with the bytes of the text in its sectors, over and over.
func filled(sectors int, text string) sheet {
	all := strings.Repeat(text, sectors*api.SectorSize/len(text)+1)
	var d sheet
	for n := range sectors {
		d = append(d, []byte(all[n*api.SectorSize:][:api.SectorSize]))
	}
	return d
}

// What lies on a disk to which no store has written is told nowhere; but no call panics, and what is installed there is found.
func TestForeignDisks(t *testing.T) {
	for _, sectors := range []int{1, 2, 8, 9, 15, 16, 17, 255, 256, 1000} {
		for _, text := range []string{"\x00", "\x01", "\xff", "\n", " ", "package a 1\n\n", "\x00\x00\x00\x0bpackage a 1\n\n", "\x00\x01\x02\x03\x04", "package a 1\nfile x=" + strings.Repeat("x", 300)} {
			d := filled(sectors, text)
			s, err := parcels.Open(d)
			if s == nil || err != nil {
				t.Fatalf("P10: Open = %v, %v", s, err)
			}
			for name := range s.Packages() {
				if err := s.Remove(name); err != nil {
					t.Fatalf("P8: Remove(%q) = %v", name, err)
				}
			}
			err = s.Install("package new 1")
			if sectors <= 8 {
				continue
			}
			again, _ := parcels.Open(d)
			if got := pairs(again.Packages(), -1); err != nil || !slices.Equal(got, []string{"new", "package new 1"}) {
				t.Errorf("P10: on a disk of %d sectors of %q: %v, %q", sectors, text, err, got)
			}
		}
	}
}
