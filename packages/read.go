package packages

import (
	"slices"
	"strings"

	"parcels/api"
)

// reader goes through a text line by line.
type reader struct {
	lines []string
	line  int // where it stands, from 1; 0: ahead of all lines
}

// Read takes a package's text apart (P4). The error is an *api.Fault.
func Read(text string) (p Package, err error) {
	var r reader
	// No call may panic: whatever is thrown ends here, and the line where the reader stands is the one that is none.
	defer func() {
		if thrown := recover(); thrown != nil {
			p, err = Package{}, &api.Fault{Kind: api.ErrForm, Line: r.line}
		}
	}()
	must(len(text) <= api.MaxText)
	// A package may be kept longer than its text, which may be a piece of a much longer one: so it has its own.
	text = strings.Clone(text)
	r = reader{lines: strings.Split(strings.TrimSuffix(text, lineBreak), lineBreak), line: 1}
	return r.readPackage(), nil
}

// must throws, for Read to catch, where something is not as it has to be.
func must(right bool) {
	if !right {
		panic(api.ErrForm)
	}
}

func (r *reader) readPackage() Package {
	var p Package
	must(r.take("package ", func(rest string) { p.Name, p.Version = readTitle(rest) }))
	r.take("needs ", func(rest string) { p.Needs = readList(rest, groupBreak, api.MaxGroups, readGroup) })
	r.take("bars ", func(rest string) { p.Bars = readList(rest, barBreak, api.MaxBars, readChoice) })
	more := true
	for more {
		more = r.take("file ", func(rest string) { p.Files = addFile(p.Files, readFile(rest)) })
	}
	must(r.line > len(r.lines))
	slices.SortFunc(p.Files, func(a, b File) int { return strings.Compare(a.Path, b.Path) })
	return p
}

// take reads the line where the reader stands if it begins so, and tells whether it did. It goes on only behind a line that was right, so that the place of a wrong one is kept.
func (r *reader) take(begin string, read func(rest string)) bool {
	if r.line > len(r.lines) {
		return false
	}
	rest, ok := strings.CutPrefix(r.lines[r.line-1], begin)
	if !ok {
		return false
	}
	read(rest)
	r.line++
	return true
}

// What stands between the members of each list.
const (
	groupBreak  = ", "
	choiceBreak = " | "
	barBreak    = ", "
	partBreak   = "/"
	lineBreak   = "\n"
)

// readList reads one to most members.
func readList[T any](text, between string, most int, read func(string) T) []T {
	members := strings.Split(text, between)
	must(len(members) <= most)
	var list []T
	for _, m := range members {
		list = append(list, read(m))
	}
	return list
}

func readTitle(text string) (name, version string) {
	name, version, ok := strings.Cut(text, " ")
	must(ok)
	return readName(name), readVersion(version)
}

func readGroup(text string) Group {
	return readList(text, choiceBreak, api.MaxChoices, readChoice)
}

func readChoice(text string) Choice {
	name, limit, ok := strings.Cut(text, " ")
	c := Choice{Name: readName(name)}
	if ok {
		c.Sign, c.Version = readLimit(limit)
	}
	return c
}

func readLimit(text string) (sign, version string) {
	text, ok := strings.CutPrefix(text, "(")
	must(ok)
	text, ok = strings.CutSuffix(text, ")")
	must(ok)
	sign, version, ok = strings.Cut(text, " ")
	must(ok && isSign(sign))
	return sign, readVersion(version)
}

func isSign(text string) bool {
	switch text {
	case "<<", "<=", "=", ">=", ">>":
		return true
	}
	return false
}

func readFile(text string) File {
	path, content, ok := strings.Cut(text, "=")
	must(ok && len(content) <= api.MaxContent)
	readList(path, partBreak, api.MaxParts, readPart)
	return File{Path: path, Content: content}
}

func addFile(files []File, f File) []File {
	must(len(files) < api.MaxFiles)
	must(!slices.ContainsFunc(files, func(g File) bool { return clash(f.Path, g.Path) }))
	return append(files, f)
}

func readName(text string) string {
	must(isMadeOf(text, api.MaxName, func(c byte) bool { return isSmall(c) || isDigit(c) || c == '-' }))
	must(isSmall(text[0]))
	return text
}

func readVersion(text string) string {
	must(isMadeOf(text, api.MaxVersion, func(c byte) bool { return isLetter(c) || isDigit(c) || isVersionMark(c) }))
	must(isDigit(text[0]))
	return text
}

func isVersionMark(c byte) bool { return c == '.' || c == '+' || c == '-' || c == '~' }

func readPart(text string) string {
	must(isMadeOf(text, api.MaxPart, func(c byte) bool { return isSmall(c) || isDigit(c) || c == '.' || c == '_' }))
	must(text != "." && text != "..")
	return text
}

// isMadeOf: is the text one to most bytes, all of the kind?
func isMadeOf(text string, most int, kind func(byte) bool) bool {
	return text != "" && len(text) <= most && lead(text, kind) == len(text)
}
