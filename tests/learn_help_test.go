package tests

import (
	"math/big"
	"slices"
	"testing"

	"loop.example/s0039/impl"
)

// learnForms are the three forms.
var learnForms = []int{impl.FormSmaller, impl.FormMask, impl.FormRange}

// wrongForms are none of the three.
var wrongForms = []int{-1, 3, 4, -1 << 63, 1<<63 - 1, 1 << 32}

func knobs(exact, split, form int) impl.Knobs {
	return impl.Knobs{Exact: exact, Split: split, Form: form}
}

// wrongKnobs are beyond their bounds, each for itself and all together.
func wrongKnobs() []impl.Knobs {
	out := []impl.Knobs{
		knobs(-1, -1, -1), knobs(impl.MaxExact+1, impl.MaxSplit+1, 3),
	}
	for _, form := range learnForms {
		for _, n := range []int{-1, 201, 1000, -1 << 63, 1<<63 - 1} {
			out = append(out, knobs(n, 0, form), knobs(n, impl.MaxSplit, form), knobs(0, n, form), knobs(impl.MaxExact, n, form))
		}
	}
	for _, form := range wrongForms {
		out = append(out, knobs(0, 0, form), knobs(impl.MaxExact, impl.MaxSplit, form))
	}
	return out
}

func values(list ...uint64) []uint64 {
	return list
}

// mirrored are the complements of the values: the same distances, from the other end of the numbers.
func mirrored(list []uint64) []uint64 {
	out := make([]uint64, len(list))
	for i, v := range list {
		out[i] = allOnes64 - v
	}
	return out
}

func wantCover(t *testing.T, list []uint64, form int, want impl.Con) {
	t.Helper()
	if got := impl.Cover(list, form); got != want {
		t.Errorf("Cover(%x, %d) is %x, want %x", list, form, got, want)
	}
}

// wantCovers asks for the answers by FormSmaller, FormMask and FormRange.
func wantCovers(t *testing.T, list []uint64, smaller, mask, span impl.Con) {
	t.Helper()
	wantCover(t, list, impl.FormSmaller, smaller)
	wantCover(t, list, impl.FormMask, mask)
	wantCover(t, list, impl.FormRange, span)
}

// refMaskCover looks at the bits one by one.
func refMaskCover(list []uint64) impl.Con {
	out := maskCon(0, 0)
	for i := range 64 {
		count := 0
		for _, v := range list {
			if v>>i&1 == 1 {
				count++
			}
		}
		if count == len(list) {
			out.B |= 1 << i
		}
		if count == len(list) || count == 0 {
			out.A |= 1 << i
		}
	}
	return out
}

func refRangeCover(list []uint64) impl.Con {
	sorted := slices.Sorted(slices.Values(list))
	return rangeCon(sorted[0], sorted[len(sorted)-1])
}

// elements is the number of elements of a mask's or a range's set.
func elements(c impl.Con) *big.Int {
	if c.Kind == impl.ConRange {
		low, high := new(big.Int).SetUint64(c.A), new(big.Int).SetUint64(c.B)
		return high.Sub(high, low).Add(high, big.NewInt(1))
	}
	out := big.NewInt(1)
	for i := range 64 {
		if c.A>>i&1 == 0 {
			out.Lsh(out, 1)
		}
	}
	return out
}

// refTaken is what Cover takes before it is made normal.
func refTaken(list []uint64, form int) impl.Con {
	mask, span := refMaskCover(list), refRangeCover(list)
	if form == impl.FormRange || form == impl.FormSmaller && elements(span).Cmp(elements(mask)) < 0 {
		return span
	}
	return mask
}

// refLearner is the document's text of Learn, word by word; it keeps the normal conditions that it was asked for.
type refLearner struct {
	*refPolicies
}

func (r refLearner) cover(list []uint64, form int) impl.Con {
	return r.norm(refTaken(list, form))
}

func (r refLearner) learn(calls []impl.Call, k impl.Knobs) impl.Policy {
	var out impl.Policy
	once := impl.Distinct(calls)
	for len(once) > 0 {
		n := 1
		for n < len(once) && once[n].Arch == once[0].Arch && once[n].Nr == once[0].Nr {
			n++
		}
		out.Entries = append(out.Entries, entry(once[0].Arch, once[0].Nr, r.learnRules(once[:n], k)...))
		once = once[n:]
	}
	return out
}

// learnRules takes the different calls of one Arch and Nr in ascending order.
func (r refLearner) learnRules(once []impl.Call, k impl.Knobs) []impl.Rule {
	var out []impl.Rule
	if len(once) <= k.Exact {
		for _, c := range once {
			out = append(out, pointRule(c.Args...))
		}
		return out
	}
	for i := range 6 {
		different := differentAt(once, i)
		if len(different) < 2 || len(different) > k.Split {
			continue
		}
		for _, v := range different {
			var group []impl.Call
			for _, c := range once {
				if c.Args[i] == v {
					group = append(group, c)
				}
			}
			rule := r.coverRule(group, k.Form)
			rule.Cons[i] = pointCon(v)
			out = append(out, rule)
		}
		return out
	}
	return append(out, r.coverRule(once, k.Form))
}

func (r refLearner) coverRule(calls []impl.Call, form int) impl.Rule {
	out := ruleWith()
	for i := range out.Cons {
		out.Cons[i] = r.cover(argsAt(calls, i), form)
	}
	return out
}

// pointRule holds for one list of arguments alone.
func pointRule(args ...uint64) impl.Rule {
	out := ruleWith()
	for i, v := range args {
		out.Cons[i] = pointCon(v)
	}
	return out
}

func argsAt(calls []impl.Call, i int) []uint64 {
	var out []uint64
	for _, c := range calls {
		out = append(out, c.Args[i])
	}
	return out
}

func differentAt(calls []impl.Call, i int) []uint64 {
	return slices.Compact(slices.Sorted(slices.Values(argsAt(calls, i))))
}

func wantLearned(t *testing.T, name string, calls []impl.Call, k impl.Knobs, want impl.Policy) {
	t.Helper()
	got, code := impl.Learn(calls, k)
	if code != impl.CodeOK {
		t.Errorf("%s: code %d", name, code)
	}
	if !samePolicy(got, want) {
		t.Errorf("%s: %x, want %x", name, got, want)
	}
}

func wantNotLearned(t *testing.T, name string, calls []impl.Call, k impl.Knobs) {
	t.Helper()
	got, code := impl.Learn(calls, k)
	if code != impl.CodeBad {
		t.Errorf("%s: code %d, want CodeBad", name, code)
	}
	if len(got.Entries) != 0 {
		t.Errorf("%s: %d entries beside code %d", name, len(got.Entries), code)
	}
}

// oneCalls are calls of the Arch and Nr of onePolicy.
func oneCalls(lists ...[]uint64) []impl.Call {
	var out []impl.Call
	for _, args := range lists {
		c := call(9, 3, 0, 0, 0, 0, 0, 0)
		copy(c.Args, args)
		out = append(out, c)
	}
	return out
}

// oneRule has the given conditions first and the point 0 behind them.
func oneRule(cons ...impl.Con) impl.Rule {
	out := pointRule(0, 0, 0, 0, 0, 0)
	copy(out.Cons, cons)
	return out
}
