package tests

import (
	"cmp"
	"math/big"
	"slices"

	"loop.example/s0039/impl"
)

// This file makes policies small a second time, word by word after the document, to hold the program against.

type conPair struct {
	a, b impl.Con
}

// refPolicies remembers what it found out about conditions; the same few come again and again.
type refPolicies struct {
	within map[conPair]bool
	normal map[impl.Con]impl.Con
}

func newRef() *refPolicies {
	return &refPolicies{within: map[conPair]bool{}, normal: map[impl.Con]impl.Con{}}
}

func (r *refPolicies) norm(c impl.Con) impl.Con {
	known, ok := r.normal[c]
	if !ok {
		known = refNorm(c)
		r.normal[c] = known
	}
	return known
}

func (r *refPolicies) conWithin(a, b impl.Con) bool {
	known, ok := r.within[conPair{a, b}]
	if !ok {
		known = setWithin(a, b)
		r.within[conPair{a, b}] = known
	}
	return known
}

func (r *refPolicies) ruleWithin(a, b impl.Rule) bool {
	for i := range a.Cons {
		if !r.conWithin(a.Cons[i], b.Cons[i]) {
			return false
		}
	}
	return true
}

func refCompare(a, b impl.Rule) int {
	return slices.CompareFunc(a.Cons, b.Cons, func(x, y impl.Con) int {
		return cmp.Or(cmp.Compare(x.Kind, y.Kind), cmp.Compare(x.A, y.A), cmp.Compare(x.B, y.B))
	})
}

// join answers the joined rule, and whether the two join.
func (r *refPolicies) join(a, b impl.Rule) (impl.Rule, bool) {
	var differ []int
	for i := range a.Cons {
		if a.Cons[i] != b.Cons[i] {
			differ = append(differ, i)
		}
	}
	if len(differ) != 1 {
		return impl.Rule{}, false
	}
	at := differ[0]
	c, ok := refJoinCons(a.Cons[at], b.Cons[at])
	if !ok {
		return impl.Rule{}, false
	}
	out := impl.Rule{Cons: slices.Clone(a.Cons)}
	out.Cons[at] = r.norm(c)
	return out, true
}

func refJoinCons(a, b impl.Con) (impl.Con, bool) {
	a1, b1, ok1 := refRange(a)
	a2, b2, ok2 := refRange(b)
	if ok1 && ok2 && !isBeyond(a2, b1) && !isBeyond(a1, b2) {
		return rangeCon(min(a1, a2), max(b1, b2)), true
	}
	if a.Kind != impl.ConMask || b.Kind != impl.ConMask || a.A != b.A {
		return impl.Con{}, false
	}
	for i := range 64 {
		if bit := uint64(1) << i; a.B == b.B+bit && b.B&bit == 0 || b.B == a.B+bit && a.B&bit == 0 {
			return maskCon(a.A-bit, min(a.B, b.B)), true
		}
	}
	return impl.Con{}, false
}

// isBeyond says whether low > high + 1.
func isBeyond(low, high uint64) bool {
	next := new(big.Int).Add(new(big.Int).SetUint64(high), big.NewInt(1))
	return new(big.Int).SetUint64(low).Cmp(next) > 0
}

// refRange answers the bounds of the condition's set, and whether the set is a range.
func refRange(c impl.Con) (uint64, uint64, bool) {
	switch c.Kind {
	case impl.ConAny:
		return 0, allOnes64, true
	case impl.ConRange:
		return c.A, c.B, true
	}
	for i := range 64 {
		for j := range i {
			if c.A>>i&1 == 0 && c.A>>j&1 == 1 {
				return 0, 0, false
			}
		}
	}
	return c.B, c.B + (allOnes64 - c.A), true
}

// rules makes the rules of one entry small.
func (r *refPolicies) rules(given []impl.Rule) []impl.Rule {
	var list []impl.Rule
	for _, g := range given {
		normal := impl.Rule{}
		for _, c := range g.Cons {
			normal.Cons = append(normal.Cons, r.norm(c))
		}
		if !slices.ContainsFunc(list, func(o impl.Rule) bool { return refCompare(o, normal) == 0 }) {
			list = append(list, normal)
		}
	}
	slices.SortFunc(list, refCompare)
	for {
		if i := r.firstWithin(list); i >= 0 {
			list = slices.Delete(list, i, i+1)
			continue
		}
		i, j, both := r.firstJoin(list)
		if i < 0 {
			break
		}
		list[i] = both
		list = slices.Delete(list, j, j+1)
	}
	slices.SortFunc(list, refCompare)
	return list
}

func (r *refPolicies) firstWithin(list []impl.Rule) int {
	return slices.IndexFunc(list, func(a impl.Rule) bool {
		count := 0
		for _, b := range list {
			if r.ruleWithin(a, b) {
				count++
			}
		}
		return count > 1 // the rule itself is one of them
	})
}

func (r *refPolicies) firstJoin(list []impl.Rule) (int, int, impl.Rule) {
	for i := range list {
		for j := i + 1; j < len(list); j++ {
			if both, ok := r.join(list[i], list[j]); ok {
				return i, j, both
			}
		}
	}
	return -1, -1, impl.Rule{}
}
