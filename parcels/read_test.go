package parcels_test

import (
	"regexp"
	"slices"
	"strings"
	"testing"

	"parcels/api"
	"parcels/plain"
)

// wantForm also asks that the one form is its own one form.
func wantForm(t *testing.T, text, want string) {
	t.Helper()
	for _, x := range []string{text, want} {
		if got, f := plain.Read(x); got != want || f != (plain.Fault{}) {
			t.Errorf("P4: Read(%q) = %q, %v, want %q", x, got, f, want)
		}
	}
}

func wantSame(t *testing.T, text string) {
	t.Helper()
	wantForm(t, text, text)
}

func wantLine(t *testing.T, text string, line int) {
	t.Helper()
	got, f := plain.Read(text)
	if got != "" || f != (plain.Fault{Kind: int(api.ErrForm), Line: line}) {
		t.Errorf("P4: Read(%q) = %q, %v, want ErrForm, line %d", text, got, f, line)
	}
}

// documentLines makes a text of the document's notation.
func documentLines(shown string) string { return strings.ReplaceAll(shown, " / ", "\n") }

func TestReadDocumentTable(t *testing.T) {
	for _, c := range []struct {
		shown, want string
	}{
		{"package a 1", "package a 1"},
		{"package a 1 / ", "package a 1"},
		{"package lib-x 2~rc1 / needs a (>= 1.0) | b, c / bars d (<< 2), e / file z/b=two words / file bin/x=", "package lib-x 2~rc1 / needs a (>= 1.0) | b, c / bars d (<< 2), e / file bin/x= / file z/b=two words"},
		{"package a 1 / file x=a=b", "package a 1 / file x=a=b"},
		{"package twelve-chars 1234567890123456", "package twelve-chars 1234567890123456"},
		{"package a 1 / needs b | c | d, e, f (= 1)", "package a 1 / needs b | c | d, e, f (= 1)"},
		{"package a 1 / file x/y/z=1", "package a 1 / file x/y/z=1"},
	} {
		wantForm(t, documentLines(c.shown), documentLines(c.want))
	}
}

func TestReadDocumentTableWrong(t *testing.T) {
	for _, c := range []struct {
		shown string
		line  int
	}{
		{"", 1},
		{"package a", 1},
		{"package A 1", 1},
		{"package -a 1", 1},
		{"package a v1", 1},
		{"package a  1", 1},
		{"package a 1 ", 1},
		{"package thirteenchars 1", 1},
		{"package a 12345678901234567", 1},
		{"package a 1 /  / ", 2},
		{"package a 1 / needs", 2},
		{"package a 1 / needs b,c", 2},
		{"package a 1 / needs b | c | d | e", 2},
		{"package a 1 / needs b, c, d, e", 2},
		{"package a 1 / needs b (1)", 2},
		{"package a 1 / needs b (> 1)", 2},
		{"package a 1 / needs b (= 1", 2},
		{"package a 1 / needs b(= 1)", 2},
		{"package a 1 / bars b | c", 2},
		{"package a 1 / bars b / needs c", 3},
		{"package a 1 / needs b / needs c", 3},
		{"package a 1 / file x=1 / bars b", 3},
		{"package a 1 / file x", 2},
		{"package a 1 / file =1", 2},
		{"package a 1 / file /x=1", 2},
		{"package a 1 / file x/../y=1", 2},
		{"package a 1 / file w/x/y/z=1", 2},
		{"package a 1 / file ninechars=1", 2},
		{"package a 1 / file x=1 / file x=2", 3},
		{"package a 1 / file x=1 / file x/y=2", 3},
		{"package a 1 / file x/y=1 / file x=2", 3},
		{"package a 1 / file a=1 / file b=1 / file c=1 / file d=1 / file e=1", 6},
		{"package a 1 / file x=1234567890123456789012345", 2},
		{"package a 1 / folder x", 2},
		{"package a 1 / package b 1", 2},
	} {
		wantLine(t, documentLines(c.shown), c.line)
	}
}

// longText is a right text of 300 bytes, and as many more as are asked for.
func longText(more int) string {
	text := "package twelve-chars 1234567890123456\nbars twelve-chars (>= 1234567890" + strings.Repeat("1", 1+more) + ")"
	for _, first := range []string{"a", "b", "c", "d"} {
		text += "\nfile " + first + "2345678/12345678/12345678=123456789012345678901234"
	}
	return text
}

func TestReadTextBound(t *testing.T) {
	if len(longText(0)) != api.MaxText {
		t.Fatalf("a text of %d bytes", len(longText(0)))
	}
	wantSame(t, longText(0))
	wantForm(t, longText(-1)+"\n", longText(-1))
	wantLine(t, longText(1), 0)
	wantLine(t, longText(0)+"\n", 0)
	wantLine(t, strings.Repeat("x", 300), 1)
	wantLine(t, strings.Repeat("x", 301), 0)
	wantLine(t, "x\n"+longText(0), 0)
	wantLine(t, strings.Repeat("\n", 300), 1)
	wantLine(t, strings.Repeat("x", 1<<20), 0)
}

func TestReadBounds(t *testing.T) {
	for _, met := range []string{
		"package a-2345678901 1",
		"package a 1.3456789012345z",
		"package a 1\nneeds b-2345678901",
		"package a 1\nneeds b (>= 1.3456789012345z)",
		"package a 1\nneeds b, c, d",
		"package a 1\nneeds b | c | d",
		"package a 1\nneeds a | b | c, d | e | f, g | h | i",
		"package a 1\nbars b-2345678901",
		"package a 1\nbars b (<< 1.3456789012345z)",
		"package a 1\nbars b, c, d",
		"package a 1\nfile a=1\nfile b=2\nfile c=3\nfile d=4",
		"package a 1\nfile a/b/c=1",
		"package a 1\nfile a2345678/b2345678/c2345678=1",
		"package a 1\nfile a=123456789012345678901234",
		"package a 1\nfile a=\xff\xff3456789012345678901234",
	} {
		wantSame(t, met)
	}
	for _, passed := range []string{
		"package a-23456789012 1",
		"package a 1.34567890123456z",
	} {
		wantLine(t, passed, 1)
	}
	for _, passed := range []string{
		"needs b-23456789012",
		"needs b (>= 1.34567890123456z)",
		"needs b, c, d, e",
		"needs b | c | d | e",
		"needs a | b | c, d | e | f, g | h | i | j",
		"needs a, b, c | d | e | f",
		"bars b-23456789012",
		"bars b (<< 1.34567890123456z)",
		"bars b, c, d, e",
		"file a/b/c/d=1",
		"file a23456789/b/c=1",
		"file a/b23456789/c=1",
		"file a/b/c23456789=1",
		"file a=1234567890123456789012345",
		"file a=ééééééééééééé",
	} {
		wantLine(t, "package a 1\n"+passed, 2)
	}
	wantLine(t, "package a 1\nneeds b\nbars c\nfile a=1\nfile b=2\nfile c=3\nfile d=4\nfile e=5", 8)
}

func TestReadLeastOfAll(t *testing.T) {
	wantSame(t, "package a 0")
	wantSame(t, "package a 1\nfile x=")
	wantSame(t, "package a 1\nbars a")
	wantSame(t, "package a 1\nneeds a\nbars a\nfile a=")
	for _, sign := range []string{"<<", "<=", "=", ">=", ">>"} {
		wantSame(t, "package a 1\nneeds b ("+sign+" 0)\nbars c ("+sign+" 0)")
	}
}

func TestReadLineBreaks(t *testing.T) {
	wantForm(t, "package a 1\nneeds b\n", "package a 1\nneeds b")
	wantForm(t, "package a 1\nfile x=\n", "package a 1\nfile x=")
	wantForm(t, "package a 1\nfile y=2\nfile x=1\n", "package a 1\nfile x=1\nfile y=2")
	wantForm(t, "package a 1\nfile x= \r\n", "package a 1\nfile x= \r")
	wantLine(t, "\n", 1)
	wantLine(t, "\n\n", 1)
	wantLine(t, "\npackage a 1", 1)
	wantLine(t, "package a 1\n\nneeds b", 2)
	wantLine(t, "package a 1\nfile x=1\n\n", 3)
	wantLine(t, "package a 1\nfile x=1\n\nfile y=1", 3)
	wantLine(t, "package a 1\n\n\n", 2)
	wantLine(t, "package a 1\r\n", 1)
	wantLine(t, "package a 1\rneeds b", 1)
}

func TestReadOrderOfFiles(t *testing.T) {
	wantForm(t, "package a 1\nfile d=1\nfile c=2\nfile b=3\nfile a=4", "package a 1\nfile a=4\nfile b=3\nfile c=2\nfile d=1")
	// By their paths, not by their lines: a line's "=" is behind ".", "/" and digits.
	wantForm(t, "package a 1\nfile ab=1\nfile a0=2\nfile a.b=3\nfile a=4", "package a 1\nfile a=4\nfile a.b=3\nfile a0=2\nfile ab=1")
	wantForm(t, "package a 1\nfile a0=1\nfile a/c=2\nfile a.b=3\nfile a_=4", "package a 1\nfile a.b=3\nfile a/c=2\nfile a0=1\nfile a_=4")
	// By their bytes, not by their parts or by their numbers.
	wantForm(t, "package a 1\nfile x9=1\nfile x10=2\nfile x/b=3\nfile x.y/a=4", "package a 1\nfile x.y/a=4\nfile x/b=3\nfile x10=2\nfile x9=1")
	// Needs and bars stay in their own order.
	wantSame(t, "package a 1\nneeds c | b, a\nbars e, d")
}

func TestReadPathsTogether(t *testing.T) {
	wantSame(t, "package a 1\nfile x/y=1\nfile x/z=2\nfile xy=3\nfile y=4")
	wantSame(t, "package a 1\nfile x.y/z=1\nfile x/y/a=2\nfile x/y/b=3\nfile x/yz=4")
	for _, wrong := range []string{
		"file x=1\nfile x=1",
		"file x/y/z=1\nfile x/y/z=2",
		"file x/y/z=1\nfile x=2",
		"file x/y/z=1\nfile x/y=2",
		"file x=1\nfile x/y/z=2",
		"file x/y=1\nfile x/y/z=2",
	} {
		wantLine(t, "package a 1\n"+wrong, 3)
	}
	// The later line of the two is the wrong one, wherever the paths stand in their order.
	wantLine(t, "package a 1\nfile x/y=1\nfile z=2\nfile b=3\nfile x=4", 5)
	wantLine(t, "package a 1\nfile x=1\nfile x.y=2\nfile x/y=3\nfile a", 4)
}

func TestReadTitles(t *testing.T) {
	wantSame(t, "package a-0-z- 0aZ.+-~")
	for _, wrong := range []string{
		"package", "package ", "package  1", "package 1", "package a ", "package a 1 2", " package a 1", "package  a 1", "Package a 1", "packages a 1", "package\ta 1", "package a\t1", "packagea 1",
		"package 0a 1", "package a_b 1", "package a.b 1", "package aB 1", "package a+ 1", "package é 1", "package a\x00 1",
		"package a .1", "package a ~1", "package a -1", "package a a", "package a 1_0", "package a 1:0", "package a 1/0", "package a 1,0", "package a 1é", "package a 1\x00",
		"needs a", "bars a", "file x=1", "x", " ", "a 1",
	} {
		wantLine(t, wrong, 1)
		wantLine(t, wrong+"\nneeds b", 1)
	}
}

// wrongChoices are such for needs and for bars.
var wrongChoices = []string{
	"", " ", "B", "0b", "-b", "b_", " b", "b ", "b  ", "b,", ",b", "b, ", ", b", "b,c", "b , c", "b,  c", "b, , c", "b c", "b;c", "b\tc",
	"b ()", "b (", "b )", "b (=)", "b (= )", "b (=1)", "b ( = 1)", "b (= 1 )", "b (=  1)", "b  (= 1)", "b(= 1)", "b (= 1", "b = 1)", "b = 1", "b (= 1) ", "b (= 1)c", "b (= 1) c", "b (= 1)(= 1)", "b (= 1) (= 1)", "b ((= 1))", "(= 1)", " (= 1)",
	"b (1)", "b ( 1)", "b (< 1)", "b (> 1)", "b (== 1)", "b (!= 1)", "b (=< 1)", "b (=> 1)", "b (<> 1)", "b (<<< 1)", "b (<<= 1)", "b (~ 1)", "b (= a)", "b (= .1)", "b (= 1_)", "b (= 1, = 2)", "B (= 1)",
	"b | c | ", "b| c", "b |c", "b|c", " | b", "b | ", "b || c", "b |  c", "b | | c", "|",
}

func TestReadNeeds(t *testing.T) {
	wantSame(t, "package a 1\nneeds a (<< 1) | a (= 1) | b, b, c-0 (>> 0~)")
	for _, c := range wrongChoices {
		wantLine(t, "package a 1\nneeds "+c, 2)
	}
	for _, line := range []string{"needs", " needs b", "Needs b", "need b", "needsb", "needs\tb"} {
		wantLine(t, "package a 1\n"+line, 2)
	}
}

func TestReadBars(t *testing.T) {
	wantSame(t, "package a 1\nbars a (<= 1.0-1+Z~), a, c-0 (>= 0)")
	for _, c := range wrongChoices {
		wantLine(t, "package a 1\nbars "+c, 2)
		wantLine(t, "package a 1\nneeds b\nbars "+c, 3)
	}
	for _, line := range []string{"bars", "bars ", " bars b", "Bars b", "bar b", "barsb", "bars b | c", "bars b, c | d"} {
		wantLine(t, "package a 1\n"+line, 2)
	}
}

func TestReadFiles(t *testing.T) {
	wantSame(t, "package a 1\nfile ...=\x00\x01\t \xff\nfile ._=file x=1\nfile 0/_/.a==\nfile z= ")
	for _, path := range []string{
		"", ".", "..", "/", "/x", "x/", "x//y", "x/y/", "./x", "../x", "x/.", "x/..", "x/./y", "x/y/..", "X", "x-y", "x y", " x", "x ", "x+y", "x~", "x\\y", "é", "x\x00", "x,y",
	} {
		wantLine(t, "package a 1\nfile "+path+"=1", 2)
		wantLine(t, "package a 1\nneeds b\nfile x.x=1\nfile "+path+"=1", 4)
	}
	for _, line := range []string{"file", "file ", "file x", "file =", " file x=1", "File x=1", "files x=1", "filex=1", "file  x=1", "file\tx=1"} {
		wantLine(t, "package a 1\n"+line, 2)
	}
}

func TestReadOrderOfLines(t *testing.T) {
	for _, c := range []struct {
		text string
		line int
	}{
		{"package a 1\npackage a 1", 2},
		{"needs b\npackage a 1", 1},
		{"package a 1\nneeds b\nneeds c", 3},
		{"package a 1\nbars b\nbars c", 3},
		{"package a 1\nbars b\nneeds c", 3},
		{"package a 1\nneeds b\nbars c\nneeds d", 4},
		{"package a 1\nfile x=1\nneeds b", 3},
		{"package a 1\nfile x=1\nbars b", 3},
		{"package a 1\nfile x=1\npackage b 1", 3},
		{"package a 1\nfile x=1\nbars b\nfile y=1", 3},
		{"package a 1\nfile x=1\n# why\nfile y=1", 3},
		// Of several wrong lines the first is told.
		{"package a\nneeds\nbars", 1},
		{"package a 1\nneeds B\nbars B\nfile B=1", 2},
		{"package a 1\nneeds b\nbars B\nfile B=1", 3},
		{"package a 1\nneeds b\nbars b\nfile b=1\nfile B=1\nfile b=1", 5},
	} {
		wantLine(t, c.text, c.line)
	}
}

const (
	namePattern    = `[a-z][a-z0-9-]{0,11}`
	versionPattern = `[0-9][A-Za-z0-9.+~-]{0,15}`
	choicePattern  = namePattern + `( \((<<|<=|=|>=|>>) ` + versionPattern + `\))?`
	groupPattern   = choicePattern + `( \| ` + choicePattern + `){0,2}`
	partPattern    = `[a-z0-9._]{1,8}`
)

var (
	titleLine = regexp.MustCompile(`^package ` + namePattern + ` ` + versionPattern + `$`)
	needsLine = regexp.MustCompile(`^needs ` + groupPattern + `(, ` + groupPattern + `){0,2}$`)
	barsLine  = regexp.MustCompile(`^bars ` + choicePattern + `(, ` + choicePattern + `){0,2}$`)
	filePath  = regexp.MustCompile(`^file (` + partPattern + `(?:/` + partPattern + `){0,2})=`)
)

// patternPath is the path of a file line that is right by itself, else empty.
func patternPath(line string) string {
	found := filePath.FindStringSubmatch(line)
	if found == nil || len(line)-len(found[0]) > 24 {
		return ""
	}
	for _, part := range strings.Split(found[1], "/") {
		if part == "." || part == ".." {
			return ""
		}
	}
	return found[1]
}

// patternRead is Read by patterns: the one form, or the line that is none.
func patternRead(text string) (string, int) {
	if len(text) > 300 {
		return "", 0
	}
	lines := strings.Split(strings.TrimSuffix(text, "\n"), "\n")
	if !titleLine.MatchString(lines[0]) {
		return "", 1
	}
	n := 1
	for _, pattern := range []*regexp.Regexp{needsLine, barsLine} {
		if n < len(lines) && pattern.MatchString(lines[n]) {
			n++
		}
	}
	files := map[string]string{}
	var paths []string
	for i, line := range lines[n:] {
		path := patternPath(line)
		wrong := path == "" || i >= 4
		for _, p := range paths {
			wrong = wrong || strings.HasPrefix(p+"/", path+"/") || strings.HasPrefix(path+"/", p+"/")
		}
		if wrong {
			return "", n + i + 1
		}
		files[path] = line
		paths = append(paths, path)
	}
	slices.Sort(paths)
	one := lines[:n]
	for _, p := range paths {
		one = append(one[:len(one):len(one)], files[p])
	}
	return strings.Join(one, "\n"), -1
}

// Every right text with one byte less, more or changed is read as the patterns say.
func TestReadChangedByAByte(t *testing.T) {
	const bytes = " azAZ059-.~+/_=|,()<>\n\r\x00\xff"
	for _, text := range []string{
		longText(0),
		"package lib-x 2~rc1\nneeds a (>= 1.0) | b | c (= 1), d, e\nbars d (<< 2), e, f\nfile z/b=two words\nfile z/a=\nfile bin/x=a=b\nfile bin/x.y=\n",
		"package a 1\nneeds b (>> 1)\nfile x/y=1\nfile x.y=2\nfile x_y=3",
		"package twelve-chars 1\nneeds a | b (<= 1)\nbars c",
	} {
		check := func(text string) {
			got, f := plain.Read(text)
			one, line := patternRead(text)
			want := plain.Fault{Kind: int(api.ErrForm), Line: line}
			if line < 0 {
				want = plain.Fault{}
			}
			if got != one || f != want {
				t.Fatalf("P4: Read(%q) = %q, %v, want %q, %v", text, got, f, one, want)
			}
		}
		check(text)
		for i := range len(text) + 1 {
			for j := range len(bytes) {
				check(text[:i] + bytes[j:j+1] + text[i:])
				if i < len(text) {
					check(text[:i] + bytes[j:j+1] + text[i+1:])
				}
			}
			if i < len(text) {
				check(text[:i] + text[i+1:])
			}
		}
	}
}
