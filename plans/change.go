package plans

import (
	"maps"
	"strings"

	"parcels/api"
)

// Found is what is installed on a disk where these texts lie (P10). They are not planned anew: what went together when it was installed may wait for each other by now, where something else is gone. Texts that are none were written by no store, and nothing is installed.
func Found(texts []string) Set {
	found, err := addAll(Set{}, texts)
	if err != nil {
		return Set{}
	}
	return found
}

// Install is what is installed when the packages of texts are, too (P7). It is a new set, so that whoever is refused still has the old one as it was. The error is an *api.Fault.
func Install(installed Set, texts []string, room int) (Set, error) {
	added, _, err := plan(installed, texts)
	if err != nil {
		return nil, err
	}
	all := installed.with(added)
	if all.Size() > room {
		return nil, &api.Fault{Kind: api.ErrSpace}
	}
	return all, nil
}

// Remove is what is installed when the named packages are gone (P8): a new set, as Install's is. The error is an *api.Fault.
func Remove(installed Set, names []string) (Set, error) {
	left := maps.Clone(installed)
	for which, name := range names {
		if _, ok := left[name]; !ok {
			return nil, &api.Fault{Kind: api.ErrAbsent, Which: which, Name: strings.Clone(name)}
		}
		delete(left, name)
	}
	// Fewer packages bar no more, and share no more paths: only needs can go wrong.
	if name := left.firstLacking(); name != "" {
		return nil, &api.Fault{Kind: api.ErrNeeds, Name: name}
	}
	return left, nil
}
