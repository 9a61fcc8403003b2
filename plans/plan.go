package plans

import (
	"errors"

	"parcels/api"
	"parcels/packages"
)

// Plan tells in which order the packages of texts are set up beside what is installed (P6). The error is an *api.Fault.
func Plan(installed Set, texts []string) ([]string, error) {
	_, names, err := plan(installed, texts)
	return names, err
}

// plan is the new packages of texts, and their names in the order in which they are set up.
func plan(installed Set, texts []string) (Set, []string, error) {
	added, err := addAll(installed, texts)
	if err != nil {
		return nil, nil, err
	}
	if err := installed.with(added).check(); err != nil {
		return nil, nil, err
	}
	names, err := order(installed, added)
	if err != nil {
		return nil, nil, err
	}
	return added, names, nil
}

// addAll makes a set of the new packages of texts. The error is ErrForm or ErrTwice.
func addAll(installed Set, texts []string) (Set, error) {
	list, err := readAll(texts)
	if err != nil {
		return nil, err
	}
	return add(installed, list)
}

// readAll reads all texts ahead of any other look at them: a text that is none is told first, wherever it stands.
func readAll(texts []string) ([]packages.Package, error) {
	var list []packages.Package
	for which, text := range texts {
		p, err := packages.Read(text)
		var fault *api.Fault
		if errors.As(err, &fault) {
			return nil, &api.Fault{Kind: fault.Kind, Which: which, Line: fault.Line}
		}
		list = append(list, p)
	}
	return list, nil
}

// add makes a set of new packages. The error is ErrTwice.
func add(installed Set, list []packages.Package) (Set, error) {
	added := Set{}
	for which, p := range list {
		_, old := installed[p.Name]
		_, ahead := added[p.Name]
		if old || ahead {
			return nil, &api.Fault{Kind: api.ErrTwice, Which: which, Name: p.Name}
		}
		added[p.Name] = p
	}
	return added, nil
}
