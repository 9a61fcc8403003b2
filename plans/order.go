package plans

import (
	"slices"

	"parcels/api"
	"parcels/packages"
)

// queue is new packages that wait for each other.
type queue struct {
	waits  map[string]int      // for how many of those that are left each waits
	behind map[string][]string // who waits for each
}

// order is the order in which new packages are set up beside what is installed. The error is ErrCycle.
func order(installed, added Set) ([]string, error) {
	q := line(installed, added)
	names := added.names()
	ready := slices.DeleteFunc(slices.Clone(names), q.isWaiting)
	done := []string{}
	for len(ready) > 0 {
		name := ready[0]
		done = append(done, name)
		ready = ready[1:]
		for _, freed := range q.setUp(name) {
			at, _ := slices.BinarySearch(ready, freed)
			ready = slices.Insert(ready, at, freed)
		}
	}
	if i := slices.IndexFunc(names, q.isWaiting); i >= 0 {
		return nil, &api.Fault{Kind: api.ErrCycle, Name: names[i]}
	}
	return done, nil
}

func line(installed, added Set) queue {
	q := queue{waits: map[string]int{}, behind: map[string][]string{}}
	for name, p := range added {
		for other := range awaited(p, installed, added) {
			q.waits[name]++
			q.behind[other] = append(q.behind[other], name)
		}
	}
	return q
}

// awaited are the new packages that the package waits for: a group that it or something installed meets makes it wait for none, any other for all that meet it.
func awaited(p packages.Package, installed, added Set) Set {
	others := Set{}
groups:
	for _, group := range p.Needs {
		for _, choice := range group {
			if choice.AsksFor(p) || installed.has(choice) {
				continue groups
			}
		}
		for _, choice := range group {
			if added.has(choice) {
				others[choice.Name] = added[choice.Name]
			}
		}
	}
	return others
}

func (q queue) isWaiting(name string) bool { return q.waits[name] > 0 }

// setUp tells which packages wait for none any more when this one is set up.
func (q queue) setUp(name string) []string {
	var freed []string
	for _, waiter := range q.behind[name] {
		q.waits[waiter]--
		if !q.isWaiting(waiter) {
			freed = append(freed, waiter)
		}
	}
	return freed
}
