package plans

import (
	"errors"
	"maps"
	"reflect"
	"slices"
	"strings"
	"testing"

	"parcels/api"
	"parcels/packages"
)

func read(t *testing.T, texts []string) []packages.Package {
	t.Helper()
	list, err := readAll(texts)
	if err != nil {
		t.Fatalf("P4: %q: %v", texts, err)
	}
	return list
}

// setOf takes packages as they are, whether they go together or not.
func setOf(list []packages.Package) Set {
	s := Set{}
	for _, p := range list {
		s[p.Name] = p
	}
	return s
}

// faultOf is an error's parts; nothing, if it has none.
func faultOf(err error) api.Fault {
	var f *api.Fault
	if errors.As(err, &f) {
		return *f
	}
	return api.Fault{}
}

// wantPlan asks twice, and that neither list is changed. The order is written with blanks between.
func wantPlan(t *testing.T, installed, texts []string, order string, fault api.Fault) {
	t.Helper()
	there := setOf(read(t, installed))
	kept, asked := maps.Clone(there), slices.Clone(texts)
	for range 2 {
		got, err := Plan(there, asked)
		f := faultOf(err)
		if strings.Join(got, " ") != order || f != fault || (err == nil) != (fault.Kind == api.OK) {
			t.Fatalf("P6: beside %q: Plan(%q) = %q, %v, want %q, %v", installed, texts, got, err, order, fault)
		}
		if !reflect.DeepEqual(there, kept) || !slices.Equal(asked, texts) {
			t.Fatalf("P1: beside %q: Plan(%q) changed what it was given", installed, texts)
		}
	}
}

func TestPlanBesideInstalled(t *testing.T) {
	for _, c := range []struct {
		installed, texts []string
		order            string
		fault            api.Fault
	}{
		{[]string{"package a 1"}, nil, "", api.Fault{}},
		{[]string{"package a 1"}, []string{"package b 1"}, "b", api.Fault{}},
		// A name that is installed is there twice.
		{[]string{"package a 1"}, []string{"package a 1"}, "", api.Fault{Kind: api.ErrTwice, Name: "a"}},
		{[]string{"package a 1"}, []string{"package b 1", "package a 2"}, "", api.Fault{Kind: api.ErrTwice, Which: 1, Name: "a"}},
		{[]string{"package a 1"}, []string{"package b 1", "package b 1", "package a 2"}, "", api.Fault{Kind: api.ErrTwice, Which: 1, Name: "b"}},
		{[]string{"package a 1"}, []string{"package a 2", "package"}, "", api.Fault{Kind: api.ErrForm, Which: 1, Line: 1}},
		// What is installed may be needed; nobody waits for it.
		{[]string{"package b 1"}, []string{"package a 1\nneeds b"}, "a", api.Fault{}},
		{[]string{"package b 1"}, []string{"package a 1\nneeds b (>= 2)"}, "", api.Fault{Kind: api.ErrNeeds, Name: "a"}},
		{[]string{"package c 1"}, []string{"package a 1\nneeds b | c", "package b 1\nneeds a"}, "a b", api.Fault{}},
		{[]string{"package c 1"}, []string{"package a 1\nneeds c | b", "package b 1\nneeds a"}, "a b", api.Fault{}},
		{[]string{"package c 1"}, []string{"package a 1\nneeds b | c (>> 1)", "package b 1"}, "b a", api.Fault{}},
		{[]string{"package c 1"}, []string{"package a 1\nneeds c, b", "package b 1"}, "b a", api.Fault{}},
		{[]string{"package c 1"}, []string{"package a 1\nneeds b, b | c", "package b 1\nneeds a"}, "", api.Fault{Kind: api.ErrCycle, Name: "a"}},
		{[]string{"package c 1\nneeds d", "package d 1\nneeds c"}, []string{"package b 1\nneeds d"}, "b", api.Fault{}},
		{[]string{"package a 1\nneeds z"}, []string{"package b 1"}, "", api.Fault{Kind: api.ErrNeeds, Name: "a"}},
		// What is installed bars, and is barred.
		{[]string{"package b 1\nbars a"}, []string{"package a 1"}, "", api.Fault{Kind: api.ErrBars, Name: "b"}},
		{[]string{"package b 1\nbars a (<< 1)"}, []string{"package a 1"}, "a", api.Fault{}},
		{[]string{"package b 1"}, []string{"package a 1\nbars b"}, "", api.Fault{Kind: api.ErrBars, Name: "a"}},
		{[]string{"package b 1\nbars a"}, []string{"package a 1\nbars b"}, "", api.Fault{Kind: api.ErrBars, Name: "a"}},
		// What is installed has paths.
		{[]string{"package a 1\nfile x=1"}, []string{"package b 1\nfile x=1"}, "", api.Fault{Kind: api.ErrOwner, Name: "x"}},
		{[]string{"package a 1\nfile x=1"}, []string{"package b 1\nfile x/y=1"}, "", api.Fault{Kind: api.ErrOwner, Name: "x"}},
		{[]string{"package a 1\nfile x/y/z=1"}, []string{"package b 1\nfile x=1"}, "", api.Fault{Kind: api.ErrOwner, Name: "x"}},
		{[]string{"package a 1\nfile x/y=1"}, []string{"package b 1\nfile x/z=1"}, "b", api.Fault{}},
		// Only new packages are in the order, and in a cycle.
		{[]string{"package a 1", "package d 1"}, []string{"package c 1", "package b 1\nneeds c"}, "c b", api.Fault{}},
		{[]string{"package a 1"}, []string{"package c 1\nneeds b", "package b 1\nneeds c, a"}, "", api.Fault{Kind: api.ErrCycle, Name: "b"}},
	} {
		wantPlan(t, c.installed, c.texts, c.order, c.fault)
	}
}

// The zero Set is an empty one.
func TestPlanBesideNothing(t *testing.T) {
	order, err := Plan(nil, []string{"package b 1\nneeds a", "package a 1"})
	if err != nil || !slices.Equal(order, []string{"a", "b"}) {
		t.Errorf("P6: Plan = %q, %v", order, err)
	}
	order, err = Plan(nil, nil)
	if err != nil || len(order) != 0 {
		t.Errorf("P6: Plan = %q, %v", order, err)
	}
}

// asks is P5's first sentence once more.
func asks(c packages.Choice, p packages.Package) bool {
	orders := map[string]string{"": "<=>", "<<": "<", "<=": "<=", "=": "=", ">=": "=>", ">>": ">"}
	order := string("<=>"[1+packages.CompareVersions(p.Version, c.Version)])
	return c.Name == p.Name && strings.Contains(orders[c.Sign], order)
}

func anyAsks(g packages.Group, list ...packages.Package) bool {
	for _, c := range g {
		for _, p := range list {
			if asks(c, p) {
				return true
			}
		}
	}
	return false
}

// setWrong is P6's errors of all packages together, once more, pair by pair.
func setWrong(all []packages.Package) api.Fault {
	var lacks, bars, paths []string
	for _, p := range all {
		for _, g := range p.Needs {
			if !anyAsks(g, all...) {
				lacks = append(lacks, p.Name)
			}
		}
		for _, q := range all {
			if p.Name == q.Name {
				continue
			}
			if anyAsks(p.Bars, q) {
				bars = append(bars, p.Name)
			}
			for _, f := range p.Files {
				for _, g := range q.Files {
					if strings.HasPrefix(g.Path+"/", f.Path+"/") {
						paths = append(paths, f.Path)
					}
				}
			}
		}
	}
	switch {
	case lacks != nil:
		return api.Fault{Kind: api.ErrNeeds, Name: slices.Min(lacks)}
	case bars != nil:
		return api.Fault{Kind: api.ErrBars, Name: slices.Min(bars)}
	case paths != nil:
		return api.Fault{Kind: api.ErrOwner, Name: slices.Min(paths)}
	}
	return api.Fault{}
}

// waitsFor: does the new package wait for the other new one?
func waitsFor(p, q packages.Package, installed []packages.Package) bool {
	for _, g := range p.Needs {
		if p.Name != q.Name && anyAsks(g, q) && !anyAsks(g, p) && !anyAsks(g, installed...) {
			return true
		}
	}
	return false
}

// slowPlan is P6 once more, from the errors of all together on.
func slowPlan(installed, added []packages.Package) (string, api.Fault) {
	if f := setWrong(slices.Concat(installed, added)); f.Kind != api.OK {
		return "", f
	}
	left := slices.Clone(added)
	slices.SortFunc(left, func(p, q packages.Package) int { return strings.Compare(p.Name, q.Name) })
	var order []string
	for len(left) > 0 {
		next := slices.IndexFunc(left, func(p packages.Package) bool {
			return !slices.ContainsFunc(left, func(q packages.Package) bool { return waitsFor(p, q, installed) })
		})
		if next < 0 {
			return "", api.Fault{Kind: api.ErrCycle, Name: left[0].Name}
		}
		order = append(order, left[next].Name)
		left = slices.Delete(left, next, next+1)
	}
	return strings.Join(order, " "), api.Fault{}
}

// variants are texts of one package among three; its version is 1 or 2.
func variants(name, x, y string) []string {
	var texts []string
	for i, rest := range []string{
		"", "",
		"needs X", "needs X", "needs X | Y", "needs X, Y", "needs X (>= 2)", "needs X (<< 2) | Y (>> 1)", "needs X (= 2) | self (= 1)", "needs X | self (>> 1), Y", "needs self (<< 1) | Y",
		"bars X", "bars Y (<= 1)", "bars X (>> 1), Y (<< 2)", "bars self, X (= 2)",
		"file f=", "file f/g=\nfile e=", "file f/g/h=\nfile f.g=", "needs X\nfile f/h=\nfile f.g/h=", "needs Y\nbars X\nfile e/f=",
	} {
		version := string("12"[i%2])
		lines := strings.NewReplacer("X", x, "Y", y, "self", name).Replace(rest)
		texts = append(texts, strings.TrimSuffix("package "+name+" "+version+"\n"+lines, "\n"))
	}
	return texts
}

// forAnySplit asks with every package of each kind absent, installed or new, wherever what is installed goes together.
func forAnySplit(t *testing.T, kinds [][]string, ask func(installed, texts []string)) {
	t.Helper()
	each := 2*len(kinds[0]) + 1
	all := 1
	for range kinds {
		all *= each
	}
	for n := range all {
		var installed, texts []string
		rest := n
		for _, k := range kinds {
			pick := rest % each
			rest /= each
			switch {
			case pick == 0:
			case pick%2 == 1:
				texts = append(texts, k[pick/2])
			default:
				installed = append(installed, k[pick/2-1])
			}
		}
		if setWrong(read(t, installed)).Kind != api.OK {
			continue
		}
		if n%2 == 1 {
			slices.Reverse(texts)
		}
		ask(installed, texts)
	}
}

// wantKinds: each kind of answer came so often that it was looked at.
func wantKinds(t *testing.T, answers map[api.Errno]int, kinds ...api.Errno) {
	t.Helper()
	for _, k := range kinds {
		if answers[k] < 50 {
			t.Errorf("only %d answers of kind %d", answers[k], k)
		}
	}
}

// Every three packages, each of them absent, installed or new, are planned as P6 says.
func TestPlanOfAnyThree(t *testing.T) {
	answers := map[api.Errno]int{}
	forAnySplit(t, [][]string{variants("a", "b", "c"), variants("b", "c", "a"), variants("c", "a", "b")}, func(installed, texts []string) {
		order, fault := slowPlan(read(t, installed), read(t, texts))
		wantPlan(t, installed, texts, order, fault)
		answers[fault.Kind]++
	})
	wantKinds(t, answers, api.OK, api.ErrNeeds, api.ErrBars, api.ErrOwner, api.ErrCycle)
}

// Any four packages that wait for any of each other are planned as P6 says.
func TestPlanOfAnyWaits(t *testing.T) {
	names := []string{"a", "b", "c", "d"}
	for n := range 8 * 8 * 8 * 8 {
		var texts []string
		for i, name := range names {
			var needs []string
			for j := range 3 {
				if n>>(3*i+j)&1 == 1 {
					needs = append(needs, names[(i+j+1)%4])
				}
			}
			text := "package " + name + " 1"
			if needs != nil {
				text += "\nneeds " + strings.Join(needs, ", ")
			}
			texts = append(texts, text)
		}
		order, fault := slowPlan(nil, read(t, texts))
		wantPlan(t, nil, texts, order, fault)
	}
}
