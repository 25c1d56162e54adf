package forge

import (
	"slices"
	"sync"

	"cippus/basics"
)

// said returns for each of so many things, cases or shops, what each truth says of it.
func said(all []forged, things int, so func(f forged, thing int) bool) map[int][]bool {
	by := map[int][]bool{}
	for thing := range things {
		for _, f := range all {
			by[thing] = append(by[thing], so(f, thing))
		}
	}
	return by
}

// told is the verdict on a thing.
type told struct{ thing, verdict int }

// verdicts returns what all truths together say of each thing.
func verdicts(by map[int][]bool) []int {
	gathered := make(chan told, len(by))
	var workers sync.WaitGroup
	for thing, answers := range by {
		workers.Add(1)
		go func() {
			defer workers.Done()
			always, sometimes := !slices.Contains(answers, false), slices.Contains(answers, true)
			gathered <- told{thing, basics.Verdict(always, sometimes)}
		}()
	}
	workers.Wait()
	close(gathered)
	list := make([]int, len(by))
	for one := range gathered {
		list[one.thing] = one.verdict
	}
	return list
}
