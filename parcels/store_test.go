package parcels_test

import (
	"maps"
	"slices"
	"strconv"
	"strings"
	"testing"

	"parcels/api"
	"parcels/plain"
)

// told is all that a store tells of what is installed, in one text, so that two stores, or one at two times, can be held against each other.
func told(t *testing.T, x *plain.Session) string {
	t.Helper()
	texts, ok := x.Packages()
	if !ok {
		t.Errorf("P9: Packages told %q, and not in one way", texts)
	}
	lines := []string{strings.Join(texts, "\n\n"), strconv.FormatFloat(x.Fill(), 'g', -1, 64)}
	for _, path := range []string{"x", "x/y", "x/y/z", "y", "f", "bin/x", "bin", ""} {
		owner, owned := x.Owner(path)
		if owned != (owner != "") {
			t.Errorf("P9: Owner(%q) = %q, %v", path, owner, owned)
		}
		lines = append(lines, path+": "+owner)
	}
	for _, texts := range [][]string{
		{},
		{"package a 1"},
		{"package b 2\nneeds a | c, new", "package new 1\nneeds b | c"},
		{"package new 1\nbars a, b, c\nfile x=1"},
		{"package new 1\nfile x/y=1"},
	} {
		order, f := x.Plan(texts)
		lines = append(lines, strings.Join(order, " "), strconv.Itoa(f.Kind), f.Name)
	}
	return strings.Join(lines, "\n")
}

func wantNames(t *testing.T, x *plain.Session, want string) {
	t.Helper()
	texts, ok := x.Packages()
	var names []string
	for _, text := range texts {
		names = append(names, strings.Fields(text)[1])
	}
	if got := strings.Join(names, " "); got != want || !ok {
		t.Errorf("P9: installed are %q (%v), want %q", got, ok, want)
	}
}

// wantAnswer: the call answers so, and the list that it is handed is as it was.
func wantAnswer(t *testing.T, name string, call func([]string) plain.Fault, list []string, want api.Fault) {
	t.Helper()
	handed := slices.Clone(list)
	if f := call(handed); f != plainFault(want) {
		t.Fatalf("%s(%q) = %v, want %v", name, list, f, want)
	}
	if !slices.Equal(handed, list) {
		t.Fatalf("P1: %s(%q) changed its list to %q", name, list, handed)
	}
}

// wantRefused: the call is refused, twice in the same way, and everything is as before.
func wantRefused(t *testing.T, x *plain.Session, name string, call func([]string) plain.Fault, list []string, want api.Fault) {
	t.Helper()
	before := told(t, x)
	for range 2 {
		wantAnswer(t, name, call, list, want)
	}
	if after := told(t, x); after != before {
		t.Errorf("P1: %s(%q) was refused, and changed\n%s\nto\n%s", name, list, before, after)
	}
}

func install(t *testing.T, x *plain.Session, texts ...string) {
	t.Helper()
	wantAnswer(t, "P7: Install", x.Install, texts, api.Fault{})
}

func remove(t *testing.T, x *plain.Session, names ...string) {
	t.Helper()
	wantAnswer(t, "P8: Remove", x.Remove, names, api.Fault{})
}

func wantNoInstall(t *testing.T, x *plain.Session, want api.Fault, texts ...string) {
	t.Helper()
	wantRefused(t, x, "P7: Install", x.Install, texts, want)
}

func wantNoRemove(t *testing.T, x *plain.Session, want api.Fault, names ...string) {
	t.Helper()
	wantRefused(t, x, "P8: Remove", x.Remove, names, want)
}

func wantOwners(t *testing.T, x *plain.Session, want map[string]string) {
	t.Helper()
	for path, owner := range want {
		if got, ok := x.Owner(path); got != owner || ok != (owner != "") {
			t.Errorf("P9: Owner(%q) = %q, %v, want %q", path, got, ok, owner)
		}
	}
}

func wantFill(t *testing.T, x *plain.Session, size, room int) {
	t.Helper()
	if got, want := x.Fill(), float64(size)/float64(room); got != want {
		t.Errorf("P9: Fill() = %v, want %d / %d", got, size, room)
	}
}

// The last paragraph of the document's examples.
func TestDocumentStory(t *testing.T) {
	x := open(t, 16)
	install(t, x, "package a 1\nfile x=1")
	wantFill(t, x, 20, 192)
	wantOwners(t, x, map[string]string{"x": "a"})
	wantNoInstall(t, x, api.Fault{Kind: api.ErrOwner, Name: "x"}, "package b 1\nfile x/y=1")
	install(t, x, "package c 1\nneeds a")
	wantNoRemove(t, x, api.Fault{Kind: api.ErrNeeds, Name: "c"}, "a")
	wantNames(t, x, "a c")
	remove(t, x, "c", "a")
	wantNames(t, x, "")
	wantNoRemove(t, x, api.Fault{Kind: api.ErrAbsent, Name: "c"}, "c", "c")
	install(t, x, "package c 1")
	wantNoRemove(t, x, api.Fault{Kind: api.ErrAbsent, Which: 1, Name: "c"}, "c", "c")
}

// Without texts or names there is nothing to refuse, on an empty store and on a full one.
func TestNothingAtAll(t *testing.T) {
	x := open(t, api.MinSectors)
	for _, texts := range [][]string{nil, sized(192)} {
		install(t, x, texts...)
		before := told(t, x)
		for _, none := range [][]string{nil, {}} {
			install(t, x, none...)
			remove(t, x, none...)
		}
		if after := told(t, x); after != before {
			t.Errorf("P7, P8: nothing at all changed\n%s\nto\n%s", before, after)
		}
	}
}

func TestOwner(t *testing.T) {
	x := open(t, api.MinSectors)
	nobodys := map[string]string{"x": "", "x/y": "", "bin": "", "bin/x": "", "": "", "/": "", "x/": "", "/x": "", ".": "", "a": "", "\xff": "", strings.Repeat("x/", 10000): ""}
	wantOwners(t, x, nobodys)
	install(t, x, "package a 1\nfile x/y/z=1\nfile bin/x=", "package b 1\nfile bin/y=x\nfile z=bin/z", "package c 1")
	owned := map[string]string{
		"x/y/z": "a", "bin/x": "a", "bin/y": "b", "z": "b",
		"x": "", "x/y": "", "bin": "", "y": "", "y/z": "", "a": "", "b": "", "c": "", "bin/z": "",
		"": "", "/": "", "z/": "", "/z": "", "x/y/": "", "x/y/z/": "", "z=": "", "Z": "", "z\x00": "", "z/y": "", "x//y/z": "", "./z": "",
	}
	wantOwners(t, x, owned)
	// What is removed owns nothing; its paths, and their folders, are free again.
	remove(t, x, "b")
	wantOwners(t, x, map[string]string{"x/y/z": "a", "bin/x": "a", "bin/y": "", "z": ""})
	install(t, x, "package d 1\nfile z/y=1\nfile bin/y=")
	wantOwners(t, x, map[string]string{"x/y/z": "a", "bin/x": "a", "bin/y": "d", "z": "", "z/y": "d"})
	remove(t, x, "a", "c", "d")
	wantOwners(t, x, nobodys)
}

func TestFill(t *testing.T) {
	for _, sectors := range []int{api.MinSectors, 17, 23, 100, api.MaxSectors} {
		room := 24 * (sectors - 8)
		x := open(t, sectors)
		wantFill(t, x, 0, room)
		install(t, x, "package a 1\n")
		wantFill(t, x, 11, room)
		install(t, x, "package b 1\nneeds a\nfile z=\nfile a=two words\n", "package c 12")
		wantFill(t, x, 11+len("package b 1\nneeds a\nfile z=\nfile a=two words")+12, room)
		wantNoInstall(t, x, api.Fault{Kind: api.ErrTwice, Name: "a"}, "package a 2")
		wantNoRemove(t, x, api.Fault{Kind: api.ErrNeeds, Name: "b"}, "a", "c")
		wantFill(t, x, 23+len("package b 1\nneeds a\nfile z=\nfile a=two words"), room)
		remove(t, x, "b", "a")
		wantFill(t, x, 12, room)
		remove(t, x, "c")
		wantFill(t, x, 0, room)
	}
}

// What was installed in whichever order and by whichever calls is told in one way.
func TestHistoryIsNotTold(t *testing.T) {
	a, b, c := "package a 1\nneeds c\nfile y=\nfile x/y=1", "package b 2\nfile bin/x=", "package c 1\nfile f=\n"
	stories := []func(*plain.Session){
		func(x *plain.Session) { install(t, x, a, b, c) },
		func(x *plain.Session) { install(t, x, c, b, a) },
		func(x *plain.Session) { install(t, x, c); install(t, x, b); install(t, x, a) },
		func(x *plain.Session) { install(t, x, b); install(t, x, a, c) },
		func(x *plain.Session) {
			install(t, x, "package z 1\nfile x=", "package b 1\nneeds z")
			wantNoInstall(t, x, api.Fault{Kind: api.ErrTwice, Which: 1, Name: "b"}, c, b)
			remove(t, x, "b", "z")
			install(t, x, a, c)
			install(t, x, "package a0 1")
			remove(t, x, "a")
			install(t, x, a, b)
			remove(t, x, "a0")
		},
		func(x *plain.Session) {
			install(t, x, "package a 1\nneeds c\nfile x/y=1\nfile y=\n", "package b 2\nfile bin/x=\n", "package c 1\nfile f=")
		},
	}
	answers := map[string]int{}
	for _, story := range stories {
		x := open(t, api.MinSectors)
		story(x)
		wantNames(t, x, "a b c")
		answers[told(t, x)]++
	}
	if len(answers) != 1 {
		t.Errorf("P2: one set of packages is told in %d ways: %q", len(answers), slices.Collect(maps.Keys(answers)))
	}
}

// What one store has installed is nothing to another.
func TestStoresAreApart(t *testing.T) {
	x, y := open(t, 16), open(t, 17)
	install(t, x, "package a 1\nfile x=1")
	wantNames(t, y, "")
	install(t, y, "package a 2\nneeds a\nfile x=2", "package b 1")
	remove(t, x, "a")
	wantNames(t, y, "a b")
	wantOwners(t, y, map[string]string{"x": "a"})
	wantFill(t, y, 28+11, 216)
	wantFill(t, x, 0, 192)
}

// oddTexts are strings that no call may stumble over.
func oddTexts() []string {
	texts := []string{
		"", " ", "\n", "\n\n", "\x00", "\xff\xfe", "é", "a", "A", "-", "a ", " a", "a\n", "package", "package ", "package a", "package a 1\n\n", "package a 1 ",
		"needs", "package a 1\nneeds ", "package a 1\nneeds a |", "package a 1\nneeds b (", "package a 1\nbars ,", "package a 1\nfile ", "package a 1\nfile =", "package a 1\nfile x/=", "package a 1\r\n",
		"package \xff 1", "package a \xff", "package a 1\nfile \xff=",
	}
	for _, n := range []int{1, 12, 13, 299, 300, 301, 100000} {
		for _, c := range []string{"a", "\n", " ", "/", "|", "(", "\x00"} {
			texts = append(texts, strings.Repeat(c, n))
		}
	}
	return texts
}

// Whatever the strings, every call comes back, refuses what is none, and leaves all as it was.
func TestOddStrings(t *testing.T) {
	x := open(t, api.MinSectors)
	install(t, x, "package b 1\nfile x=1", "package c 1\nneeds b")
	before := told(t, x)
	for _, odd := range oddTexts() {
		for which, f := range []plain.Fault{x.Install([]string{odd}), x.Install([]string{"package d 1", odd})} {
			if f.Kind != int(api.ErrForm) || f.Which != which {
				t.Errorf("P7: Install(%.20q..) = %v", odd, f)
			}
		}
		for which, f := range []plain.Fault{x.Remove([]string{odd}), x.Remove([]string{"b", odd}), x.Remove([]string{"c", "b", odd})} {
			if f != (plain.Fault{Kind: int(api.ErrAbsent), Which: which, Name: odd}) {
				t.Errorf("P8: Remove(%.20q..) at place %d = %d, %d, %d, %.20q..", odd, which, f.Kind, f.Which, f.Line, f.Name)
			}
		}
		if owner, ok := x.Owner(odd); owner != "" || ok {
			t.Errorf("P9: Owner(%.20q..) = %q, %v", odd, owner, ok)
		}
	}
	if after := told(t, x); after != before {
		t.Errorf("P1: odd strings changed\n%s\nto\n%s", before, after)
	}
}
