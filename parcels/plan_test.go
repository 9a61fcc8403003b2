package parcels_test

import (
	"errors"
	"slices"
	"strconv"
	"strings"
	"testing"

	"parcels/api"
	"parcels/parcels"
	"parcels/plain"
)

func open(t *testing.T, sectors int) *plain.Session {
	t.Helper()
	x, f := plain.New(sectors)
	if f != (plain.Fault{}) {
		t.Fatalf("P10: Open of an empty disk of %d sectors: %v", sectors, f)
	}
	return x
}

// plainFault is a fault as plain tells it.
func plainFault(f api.Fault) plain.Fault {
	return plain.Fault{Kind: int(f.Kind), Which: f.Which, Line: f.Line, Name: f.Name}
}

// askPlan asks twice: an answer is the caller's, who may change it.
func askPlan(t *testing.T, x *plain.Session, texts []string) (string, plain.Fault) {
	t.Helper()
	asked := slices.Clone(texts)
	order, f := x.Plan(asked)
	first := strings.Join(order, " ")
	for i := range order {
		order[i] = "x"
	}
	order, again := x.Plan(asked)
	if second := strings.Join(order, " "); first != second || f != again || !slices.Equal(asked, texts) {
		t.Errorf("P2: Plan(%q) = %q, %v, and then %q, %v", texts, first, f, second, again)
	}
	return first, f
}

// wantPlan: the order is written with blanks between.
func wantPlan(t *testing.T, order string, texts ...string) {
	t.Helper()
	got, f := askPlan(t, open(t, api.MinSectors), texts)
	if got != order || f != (plain.Fault{}) {
		t.Errorf("P6: Plan(%q) = %q, %v, want %q", texts, got, f, order)
	}
}

func wantNoPlan(t *testing.T, want api.Fault, texts ...string) {
	t.Helper()
	got, f := askPlan(t, open(t, api.MinSectors), texts)
	if got != "" || f != plainFault(want) {
		t.Errorf("P6: Plan(%q) = %q, %v, want %v", texts, got, f, want)
	}
}

func TestOpenEmptyDisk(t *testing.T) {
	for sectors := api.MinSectors; sectors <= api.MaxSectors; sectors++ {
		x := open(t, sectors)
		order, f := askPlan(t, x, []string{"package b 1\nneeds a", "package a 1"})
		if order != "a b" || f != (plain.Fault{}) {
			t.Fatalf("P10: Plan on an empty disk of %d sectors = %q, %v", sectors, order, f)
		}
		if f := x.Reopen(0, -1); f != (plain.Fault{}) {
			t.Fatalf("P10: a second Open of a disk of %d sectors: %v", sectors, f)
		}
		if l, ok := x.Packages(); len(l) != 0 || !ok {
			t.Fatalf("P10: on an empty disk of %d sectors: %q", sectors, l)
		}
	}
}

// documentTexts are a row's texts in the document's notation.
func documentTexts(shown string) []string {
	var texts []string
	for _, text := range strings.Split(shown, "; ") {
		texts = append(texts, documentLines(text))
	}
	return texts
}

func TestPlanDocumentTable(t *testing.T) {
	wantPlan(t, "")
	for _, c := range []struct{ shown, order string }{
		{"package b 1 / needs a; package a 1", "a b"},
		{"package a 1; package c 1; package b 1", "a b c"},
		{"package a 1 / needs b; package b 1 / needs c; package c 1", "c b a"},
		{"package a 1 / needs a", "a"},
		{"package a 1 / needs b | c; package b 1 / needs c; package c 1", "c b a"},
		{"package a 1 / needs b (>= 2) | b (= 1); package b 1", "b a"},
		{"package a 1 / bars b (<< 1); package b 1", "a b"},
		{"package a 1 / bars a", "a"},
		{"package a 1 / file x/y=1; package b 1 / file x/z=1", "a b"},
	} {
		wantPlan(t, c.order, documentTexts(c.shown)...)
	}
	for _, c := range []struct {
		shown string
		fault api.Fault
	}{
		{"package a 1 / needs b", api.Fault{Kind: api.ErrNeeds, Name: "a"}},
		{"package a 1 / needs b (>= 2); package b 1", api.Fault{Kind: api.ErrNeeds, Name: "a"}},
		{"package c 1 / needs x; package b 1 / needs x", api.Fault{Kind: api.ErrNeeds, Name: "b"}},
		{"package a 1 / bars b; package b 1", api.Fault{Kind: api.ErrBars, Name: "a"}},
		{"package a 1 / file x=1; package b 1 / file x=1", api.Fault{Kind: api.ErrOwner, Name: "x"}},
		{"package a 1 / file x/y=1; package b 1 / file x=1", api.Fault{Kind: api.ErrOwner, Name: "x"}},
		{"package a 1 / needs b; package b 1 / needs a", api.Fault{Kind: api.ErrCycle, Name: "a"}},
		{"package c 1 / needs b; package b 1 / needs c; package a 1 / needs b", api.Fault{Kind: api.ErrCycle, Name: "a"}},
		{"package a 1; package a 2", api.Fault{Kind: api.ErrTwice, Which: 1, Name: "a"}},
		{"package a 1; package; package b", api.Fault{Kind: api.ErrForm, Which: 1, Line: 1}},
		{"package a 1 / needs z; x", api.Fault{Kind: api.ErrForm, Which: 1, Line: 1}},
		{"package a 1; package a 1 / needs z", api.Fault{Kind: api.ErrTwice, Which: 1, Name: "a"}},
		{"package a 1 / needs z / bars b; package b 1", api.Fault{Kind: api.ErrNeeds, Name: "a"}},
		{"package a 1 / bars b / file x=1; package b 1 / file x=1", api.Fault{Kind: api.ErrBars, Name: "a"}},
	} {
		wantNoPlan(t, c.fault, documentTexts(c.shown)...)
	}
}

// Each sign, in needs and in bars, at an earlier version, the same (also in other digits) and a later one.
func TestPlanSigns(t *testing.T) {
	for _, c := range []struct {
		choice string
		met    []string
		not    []string
	}{
		{"b", []string{"0", "2", "9~a"}, nil},
		{"b (<< 2)", []string{"1.9", "2~rc1"}, []string{"2", "02", "2.0", "3"}},
		{"b (<= 2)", []string{"1.9", "2~rc1", "2", "02"}, []string{"2.0", "3"}},
		{"b (= 2)", []string{"2", "02"}, []string{"1.9", "2~rc1", "2.0", "3"}},
		{"b (>= 2)", []string{"2", "02", "2.0", "10"}, []string{"1.9", "2~rc1"}},
		{"b (>> 2)", []string{"2.0", "10"}, []string{"1.9", "2~rc1", "2", "02"}},
	} {
		needs, bars := "package a 1\nneeds "+c.choice, "package a 1\nbars "+c.choice
		for _, v := range c.met {
			wantPlan(t, "b a", needs, "package b "+v)
			wantNoPlan(t, api.Fault{Kind: api.ErrBars, Name: "a"}, bars, "package b "+v)
		}
		for _, v := range c.not {
			wantNoPlan(t, api.Fault{Kind: api.ErrNeeds, Name: "a"}, needs, "package b "+v)
			wantPlan(t, "a b", bars, "package b "+v)
		}
	}
}

func TestPlanNeeds(t *testing.T) {
	// One choice of each group is enough, wherever it stands; each group needs one.
	wantPlan(t, "d a", "package a 1\nneeds d | x | y", "package d 1")
	wantPlan(t, "d a", "package a 1\nneeds x | y | d", "package d 1")
	wantPlan(t, "c d a", "package a 1\nneeds x | d, c", "package c 1", "package d 1")
	wantNoPlan(t, api.Fault{Kind: api.ErrNeeds, Name: "a"}, "package a 1\nneeds d, x", "package d 1")
	wantNoPlan(t, api.Fault{Kind: api.ErrNeeds, Name: "a"}, "package a 1\nneeds x, d", "package d 1")
	wantNoPlan(t, api.Fault{Kind: api.ErrNeeds, Name: "a"}, "package a 1\nneeds d, d, x | y | z", "package d 1")
	// The package itself may meet a group.
	wantPlan(t, "a", "package a 2\nneeds a (>= 2)")
	wantNoPlan(t, api.Fault{Kind: api.ErrNeeds, Name: "a"}, "package a 2\nneeds a (>> 2)")
	wantPlan(t, "a", "package a 2\nneeds x | a (= 2)")
	// Of several that lack something the first by name is told, in whichever order the texts stand.
	for _, texts := range [][]string{
		{"package c 1\nneeds x", "package b 1\nneeds x", "package a 1"},
		{"package a 1", "package b 1\nneeds a, x", "package c 1\nneeds y"},
	} {
		wantNoPlan(t, api.Fault{Kind: api.ErrNeeds, Name: "b"}, texts...)
	}
	wantNoPlan(t, api.Fault{Kind: api.ErrNeeds, Name: "a-"}, "package aa 1\nneeds x", "package a0 1\nneeds x", "package a- 1\nneeds x", "package b 1\nneeds x")
	wantNoPlan(t, api.Fault{Kind: api.ErrNeeds, Name: "a10"}, "package a9 1\nneeds x", "package a10 1\nneeds x")
}

func TestPlanBars(t *testing.T) {
	// A package may bar itself; that does not help another.
	wantPlan(t, "a b", "package a 1\nbars a", "package b 1\nbars b (= 1), b, x")
	wantNoPlan(t, api.Fault{Kind: api.ErrBars, Name: "a"}, "package a 1\nbars a, b", "package b 1")
	// Each bar counts.
	for _, bars := range []string{"b, x, y", "x, b, y", "x, y, b", "b (<< 1), b (>= 1)"} {
		wantNoPlan(t, api.Fault{Kind: api.ErrBars, Name: "a"}, "package a 1\nbars "+bars, "package b 1")
	}
	// Who bars is told, not who is barred; of several the first by name.
	wantNoPlan(t, api.Fault{Kind: api.ErrBars, Name: "b"}, "package b 1\nbars a", "package a 1")
	wantNoPlan(t, api.Fault{Kind: api.ErrBars, Name: "a"}, "package b 1\nbars a", "package a 1\nbars b")
	wantNoPlan(t, api.Fault{Kind: api.ErrBars, Name: "c"}, "package d 1\nbars a", "package c 1\nbars d", "package b 1\nbars c (>> 1)", "package a 1")
	// What is needed may be barred by another.
	wantNoPlan(t, api.Fault{Kind: api.ErrBars, Name: "c"}, "package a 1\nneeds b", "package b 1", "package c 1\nbars b")
	wantNoPlan(t, api.Fault{Kind: api.ErrBars, Name: "a"}, "package a 1\nneeds b\nbars b", "package b 1")
}

func TestPlanOwners(t *testing.T) {
	for _, c := range []struct{ a, b, path string }{
		{"x", "x", "x"},
		{"x/y/z", "x/y/z", "x/y/z"},
		{"x", "x/y", "x"},
		{"x", "x/y/z", "x"},
		{"x/y", "x/y/z", "x/y"},
		{"x/y", "x/z", ""},
		{"x/y/a", "x/y/b", ""},
		{"x", "xy", ""},
		{"x", "x.y", ""},
		{"x", "x_/y", ""},
		{"x/y", "x/yz", ""},
		{"x/y", "y", ""},
		{"x/y", "y/x", ""},
		{"x/y/z", "y/z", ""},
		{"y/z", "x/y", ""},
	} {
		for _, texts := range [][]string{
			{"package a 1\nfile " + c.a + "=1", "package b 1\nfile " + c.b + "=2"},
			{"package a 1\nfile " + c.b + "=1", "package b 1\nfile " + c.a + "=2"},
		} {
			if c.path == "" {
				wantPlan(t, "a b", texts...)
			} else {
				wantNoPlan(t, api.Fault{Kind: api.ErrOwner, Name: c.path}, texts...)
			}
		}
	}
	// Of several paths the first, byte by byte.
	for _, c := range []struct{ a, b, path string }{
		{"b=\nfile a/x=", "b=\nfile a=", "a"},
		{"c/d=\nfile b=", "c/d/e=\nfile b=", "b"},
		{"b/c=\nfile z=", "b=\nfile z=", "b"},
		{"x/y=\nfile x.y=\nfile x0=\nfile x_=", "x/y=\nfile x.y=\nfile x0=\nfile x_=", "x.y"},
		{"x/y=\nfile x0=\nfile x_=", "x/y=\nfile x0=\nfile x_=", "x/y"},
		{"a/b/c=", "a/b=\nfile a.b=", "a/b"},
		{"x9=\nfile x10=", "x9=\nfile x10=", "x10"},
	} {
		wantNoPlan(t, api.Fault{Kind: api.ErrOwner, Name: c.path}, "package a 1\nfile "+c.a, "package b 1\nfile "+c.b)
		wantNoPlan(t, api.Fault{Kind: api.ErrOwner, Name: c.path}, "package b 1\nfile "+c.a, "package a 1\nfile "+c.b)
	}
	wantNoPlan(t, api.Fault{Kind: api.ErrOwner, Name: "x"}, "package a 1\nfile x=", "package b 1\nfile x=", "package c 1\nfile x=")
	wantNoPlan(t, api.Fault{Kind: api.ErrOwner, Name: "p"}, "package a 1\nfile p/q/r=", "package b 1\nfile p/q=", "package c 1\nfile p=")
}

func TestPlanOrder(t *testing.T) {
	// Nobody waits: by name, byte by byte.
	wantPlan(t, "a a- a-b a0 a10 a9 aa b", "package b 1", "package aa 1", "package a9 1", "package a10 1", "package a0 1", "package a-b 1", "package a- 1", "package a 1")
	// The first by name of those that are free, each time anew.
	wantPlan(t, "b a c", "package a 1\nneeds b", "package b 1", "package c 1")
	wantPlan(t, "b c a", "package a 1\nneeds c", "package b 1", "package c 1")
	wantPlan(t, "c a b d", "package a 1\nneeds c", "package b 1\nneeds c", "package c 1", "package d 1")
	wantPlan(t, "b d c a e", "package a 1\nneeds c", "package b 1", "package c 1\nneeds d", "package d 1", "package e 1")
	wantPlan(t, "c d b a", "package a 1\nneeds b", "package b 1\nneeds c, d", "package c 1", "package d 1")
	// A package waits for all that meet a group, not for the first of them alone.
	wantPlan(t, "b c a", "package a 1\nneeds b | c", "package b 1", "package c 1")
	wantPlan(t, "c d b a", "package a 1\nneeds c | b", "package b 1\nneeds d", "package c 1", "package d 1")
	wantNoPlan(t, api.Fault{Kind: api.ErrCycle, Name: "a"}, "package a 1\nneeds b | c", "package b 1\nneeds a", "package c 1")
	// What does not meet it is not waited for.
	wantPlan(t, "c a b", "package a 1\nneeds b (>= 2) | c", "package b 1\nneeds a", "package c 1")
	wantPlan(t, "a b", "package a 1\nbars b (>> 1)", "package b 1")
	// A group that the package itself meets makes it wait for nobody; each group is for itself.
	wantPlan(t, "a b", "package a 1\nneeds b | a", "package b 1\nneeds a")
	wantPlan(t, "a b", "package a 1\nneeds a (<= 1) | b", "package b 1\nneeds a")
	wantPlan(t, "b a", "package a 1\nneeds a (<< 1) | b", "package b 1")
	wantPlan(t, "b a", "package a 1\nneeds a | b, b", "package b 1")
	wantPlan(t, "b a", "package a 1\nneeds b, a | b", "package b 1")
	// To ask more than once for a package is to wait for it once.
	wantPlan(t, "b a c", "package a 1\nneeds b | b (= 1), b, b", "package b 1", "package c 1")
}

func TestPlanCycles(t *testing.T) {
	// The first of all that are left is told, whether it stands in a ring or behind one.
	wantNoPlan(t, api.Fault{Kind: api.ErrCycle, Name: "b"}, "package a 1", "package b 1\nneeds c", "package c 1\nneeds b")
	wantNoPlan(t, api.Fault{Kind: api.ErrCycle, Name: "x"}, "package z 1\nneeds y", "package y 1\nneeds z", "package x 1\nneeds z", "package w 1")
	wantNoPlan(t, api.Fault{Kind: api.ErrCycle, Name: "b"}, "package a 1\nneeds f", "package b 1\nneeds c", "package c 1\nneeds d", "package d 1\nneeds e, a", "package e 1\nneeds c", "package f 1")
	// Of two rings too.
	wantNoPlan(t, api.Fault{Kind: api.ErrCycle, Name: "a"}, "package d 1\nneeds c", "package c 1\nneeds d", "package b 1\nneeds a", "package a 1\nneeds b")
}

// wrongTexts are texts of which the last is told to be wrong.
type wrongTexts struct {
	texts []string
	fault api.Fault
}

// forAnyOf asks with any of several wrong texts at once, of which the first one's fault is wanted; names, paths and places speak for the last.
func forAnyOf(wrong []wrongTexts, ask func(want api.Fault, texts []string)) {
	for some := 1; some < 1<<len(wrong); some++ {
		var texts []string
		var want api.Fault
		for i := len(wrong) - 1; i >= 0; i-- {
			if some>>i&1 == 0 {
				continue
			}
			texts = append(texts, wrong[i].texts...)
			want = wrong[i].fault
			if want.Kind == api.ErrForm || want.Kind == api.ErrTwice {
				want.Which = len(texts) - 1
			}
		}
		ask(want, texts)
	}
}

// Six things that are wrong, in the order in which the document names them.
func TestPlanErrorsInTheirOrder(t *testing.T) {
	forAnyOf([]wrongTexts{
		{[]string{"package k 1\nneeds"}, api.Fault{Kind: api.ErrForm, Line: 2}},
		{[]string{"package j 1", "package j 1"}, api.Fault{Kind: api.ErrTwice, Name: "j"}},
		{[]string{"package i 1\nneeds x"}, api.Fault{Kind: api.ErrNeeds, Name: "i"}},
		{[]string{"package h 1\nbars g", "package g 1"}, api.Fault{Kind: api.ErrBars, Name: "h"}},
		{[]string{"package f 1\nfile p=1", "package e 1\nfile p=1"}, api.Fault{Kind: api.ErrOwner, Name: "p"}},
		{[]string{"package d 1\nneeds c", "package c 1\nneeds d"}, api.Fault{Kind: api.ErrCycle, Name: "c"}},
	}, func(want api.Fault, texts []string) { wantNoPlan(t, want, texts...) })
}

func TestPlanTextsThatAreNone(t *testing.T) {
	for _, c := range []struct {
		text string
		line int
	}{
		{"", 1},
		{"\n", 1},
		{"package a 1\n\n", 2},
		{"package b 1\nfile x=1\nfile x=2", 3},
		{strings.Repeat("x", api.MaxText+1), 0},
		{"\xff\x00", 1},
	} {
		for which := range 4 {
			texts := []string{"package a 1", "package a 1", "package c 1\nneeds x"}
			texts = slices.Insert(texts, which, c.text)
			wantNoPlan(t, api.Fault{Kind: api.ErrForm, Which: which, Line: c.line}, texts...)
			// Of several the first.
			wantNoPlan(t, api.Fault{Kind: api.ErrForm, Which: which, Line: c.line}, append(texts, "package a 1\nx", "")...)
		}
	}
}

func TestPlanTwice(t *testing.T) {
	wantNoPlan(t, api.Fault{Kind: api.ErrTwice, Which: 2, Name: "b"}, "package a 1", "package b 1", "package b 2", "package a 1")
	wantNoPlan(t, api.Fault{Kind: api.ErrTwice, Which: 3, Name: "a"}, "package a 1", "package b 1", "package c 1", "package a 1", "package b 1")
	wantNoPlan(t, api.Fault{Kind: api.ErrTwice, Which: 1, Name: "a"}, "package a 1", "package a 1", "package a 1")
	wantPlan(t, "a a- aa", "package aa 1", "package a- 1", "package a 1")
}

// noughts is an empty disk that keeps nothing.
type noughts int

func (n noughts) Sectors() int      { return int(n) }
func (n noughts) Read(int) []byte   { return make([]byte, api.SectorSize) }
func (n noughts) Write(int, []byte) {}
func (n noughts) Sync()             {}

// The error is an *api.Fault that wraps its kind, and comes alone.
func TestPlanErrorIsAFault(t *testing.T) {
	s, err := parcels.Open(noughts(api.MinSectors))
	if s == nil || err != nil {
		t.Fatalf("P10: Open = %v, %v", s, err)
	}
	order, err := s.Plan("package b 1", "package a 1\nneeds x")
	var f *api.Fault
	if order != nil || !errors.Is(err, api.ErrNeeds) || !errors.As(err, &f) || f.Name != "a" {
		t.Errorf("Words: Plan = %q, %v", order, err)
	}
}

// chain is packages of which each waits for the one behind it; the last for what is told.
func chain(n int, last string) (names, texts []string) {
	for i := range n {
		names = append(names, "n"+strconv.Itoa(100000+i))
	}
	for i, name := range names {
		needs := last
		if i < n-1 {
			needs = "needs " + names[i+1]
		}
		texts = append(texts, "package "+name+" 1\n"+needs)
	}
	return names, texts
}

func TestPlanOfMany(t *testing.T) {
	names, texts := chain(20000, "")
	slices.Reverse(names)
	wantPlan(t, strings.Join(names, " "), texts...)
	names, texts = chain(20000, "needs n100000")
	wantNoPlan(t, api.Fault{Kind: api.ErrCycle, Name: names[0]}, texts...)
	// All wait for one.
	names, texts = nil, []string{"package z 1"}
	for i := range 10000 {
		names = append(names, "n"+strconv.Itoa(100000+i))
		texts = append(texts, "package "+names[i]+" 1\nneeds z")
	}
	slices.Reverse(texts)
	wantPlan(t, "z "+strings.Join(names, " "), texts...)
}
