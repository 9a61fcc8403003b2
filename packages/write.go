package packages

import "strings"

// OneForm is the package's text in its one form (P4).
func (p Package) OneForm() string {
	lines := []string{"package " + p.Name + " " + p.Version}
	if len(p.Needs) > 0 {
		lines = append(lines, "needs "+writeList(p.Needs, groupBreak, writeGroup))
	}
	if len(p.Bars) > 0 {
		lines = append(lines, "bars "+writeList(p.Bars, barBreak, writeChoice))
	}
	if len(p.Files) > 0 {
		lines = append(lines, writeList(p.Files, lineBreak, func(f File) string { return "file " + f.Path + "=" + f.Content }))
	}
	return strings.Join(lines, lineBreak)
}

func writeGroup(g Group) string { return writeList(g, choiceBreak, writeChoice) }

func writeChoice(c Choice) string {
	if c.Sign == "" {
		return c.Name
	}
	return c.Name + " (" + c.Sign + " " + c.Version + ")"
}

func writeList[T any](list []T, between string, write func(T) string) string {
	var members []string
	for _, m := range list {
		members = append(members, write(m))
	}
	return strings.Join(members, between)
}
