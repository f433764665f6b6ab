package tests

import (
	"testing"

	"loop.example/s0039/impl"
)

// P10, 4.2: knobs at their bounds are valid, with calls and without.
func TestLearnKnobsAtBounds(t *testing.T) {
	for _, exact := range []int{0, 1, impl.MaxExact} {
		for _, split := range []int{0, 1, impl.MaxSplit} {
			for _, form := range learnForms {
				k := knobs(exact, split, form)
				wantLearned(t, "no calls", nil, k, impl.Policy{})
				wantLearned(t, "an empty list of calls", []impl.Call{}, k, impl.Policy{})
				wantLearned(t, "one call", oneCalls(values(5, 6)), k, onePolicy(pointRule(5, 6, 0, 0, 0, 0)))
			}
		}
	}
}

// P10, 4.2: knobs beyond their bounds, each for itself and all together.
func TestLearnKnobsNotValid(t *testing.T) {
	for _, k := range wrongKnobs() {
		wantNotLearned(t, "no calls", nil, k)
		wantNotLearned(t, "one call", oneCalls(values(5, 6)), k)
		wantNotLearned(t, "a call that is not valid", []impl.Call{call(1, 1)}, k)
	}
}

// P10, 4.2: MaxCalls calls, repeated ones counted, and one more.
func TestLearnHowManyCalls(t *testing.T) {
	ref := refLearner{newRef()}
	for _, k := range []impl.Knobs{{}, knobs(impl.MaxExact, impl.MaxSplit, impl.FormRange)} {
		many := manyCalls(impl.MaxCalls + 1)
		wantLearned(t, "different calls", many[:impl.MaxCalls], k, ref.learn(many[:impl.MaxCalls], k))
		wantNotLearned(t, "one different call too many", many, k)
		same := make([]impl.Call, impl.MaxCalls+1)
		for i := range same {
			same[i] = oneCalls(values(5, 6))[0]
		}
		wantLearned(t, "equal calls", same[:impl.MaxCalls], k, onePolicy(pointRule(5, 6, 0, 0, 0, 0)))
		wantNotLearned(t, "one equal call too many", same, k)
	}
}

// P10, 4.2: one call that has not six arguments is enough, wherever it stands.
func TestLearnCallsNotValid(t *testing.T) {
	for _, n := range []int{0, 1, 5, 7, 12} {
		wrong := impl.Call{Arch: 9, Nr: 3, Args: make([]uint64, n)}
		for at := range 4 {
			calls := oneCalls(values(1), values(2), values(0), values(0))
			calls[at] = wrong
			for _, k := range []impl.Knobs{{}, knobs(impl.MaxExact, impl.MaxSplit, impl.FormMask)} {
				wantNotLearned(t, "one of four", calls, k)
				wantNotLearned(t, "alone", []impl.Call{wrong}, k)
			}
		}
	}
	calls := manyCalls(impl.MaxCalls)
	calls[impl.MaxCalls-1].Args = make([]uint64, 5)
	wantNotLearned(t, "the last of many", calls, impl.Knobs{})
}
