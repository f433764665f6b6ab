package tests

import (
	"slices"
	"testing"

	"loop.example/s0039/impl"
)

// shortCodes are the tests that an item can have.
var shortCodes = []uint16{0x15, 0x25, 0x35, 0x45}

// farNumbers are numbers of labels and of kinds far from each other.
var farNumbers = []int{-1 << 63, -1<<63 + 1, -1 << 32, -1, 0, 1, 5, 1 << 16, 1 << 32, 1<<63 - 2, 1<<63 - 1}

func insItem(ins impl.Ins) impl.Item {
	return impl.Item{Kind: impl.ItemIns, Ins: ins}
}

func ifItem(code uint16, k uint32, target int) impl.Item {
	return impl.Item{Kind: impl.ItemIf, Ins: byK(code, k), Target: target}
}

func unlessItem(code uint16, k uint32, target int) impl.Item {
	return impl.Item{Kind: impl.ItemUnless, Ins: byK(code, k), Target: target}
}

func gotoItem(target int) impl.Item {
	return impl.Item{Kind: impl.ItemGoto, Target: target}
}

func labelItem(target int) impl.Item {
	return impl.Item{Kind: impl.ItemLabel, Target: target}
}

func items(list ...impl.Item) []impl.Item {
	return list
}

// plainIns are n instructions that all differ.
func plainIns(n int) []impl.Ins {
	var out []impl.Ins
	for i := range n {
		out = append(out, byK(0x04, uint32(i)))
	}
	return out
}

// plainItems make plainIns.
func plainItems(n int) []impl.Item {
	var out []impl.Item
	for _, ins := range plainIns(n) {
		out = append(out, insItem(ins))
	}
	return out
}

// manyLabels are n labels from the given number on.
func manyLabels(n, first int) []impl.Item {
	var out []impl.Item
	for i := range n {
		out = append(out, labelItem(first+i))
	}
	return out
}

func wantProgram(t *testing.T, name string, got []impl.Ins, code int, want []impl.Ins) {
	t.Helper()
	if code != impl.CodeOK || len(got) != len(want) {
		t.Errorf("%s: code %d and %d instructions, want CodeOK and %d", name, code, len(got), len(want))
		return
	}
	for i := range want {
		if got[i] != want[i] {
			t.Errorf("%s: instruction %d is %x, want %x", name, i, got[i], want[i])
			return
		}
	}
}

func wantNoProgram(t *testing.T, name string, got []impl.Ins, code, want int) {
	t.Helper()
	if code != want || len(got) != 0 {
		t.Errorf("%s: code %d and %d instructions, want %d and none", name, code, len(got), want)
	}
}

func wantAssembled(t *testing.T, name string, given []impl.Item, want ...impl.Ins) {
	t.Helper()
	got, code := impl.Assemble(given)
	wantProgram(t, name, got, code, want)
}

func wantNotAssembled(t *testing.T, name string, given []impl.Item, want int) {
	t.Helper()
	got, code := impl.Assemble(given)
	wantNoProgram(t, name, got, code, want)
}

func wantCompiled(t *testing.T, name string, p impl.Policy, want []impl.Ins) {
	t.Helper()
	got, code := impl.Compile(p)
	wantProgram(t, name, got, code, want)
}

func wantNotCompiled(t *testing.T, name string, p impl.Policy, want int) {
	t.Helper()
	got, code := impl.Compile(p)
	wantNoProgram(t, name, got, code, want)
}

// wantLaidOut asks for the layout that the document's words give, be it too large or not.
func wantLaidOut(t *testing.T, name string, p impl.Policy) {
	t.Helper()
	want := refLayout(refCompile(p))
	if len(want) > impl.MaxProgram {
		wantNotCompiled(t, name, p, impl.CodeTooLarge)
		return
	}
	wantCompiled(t, name, p, want)
}

// filterOf is the program of a policy that is not too large; it is valid.
func filterOf(t *testing.T, p impl.Policy) []impl.Ins {
	t.Helper()
	prog, code := impl.Compile(p)
	if code != impl.CodeOK {
		t.Fatalf("code %d, want CodeOK", code)
	}
	wantFault(t, "the compiled program", prog, impl.FaultNone, 0)
	return prog
}

// someIPs have parts that look like what the filter asks elsewhere in the record.
var someIPs = []uint64{0, 9, 3 << 32, 1<<63 + 5, allOnes64}

// refAllows is the document's meaning of a valid policy.
func refAllows(p impl.Policy, c impl.Call) bool {
	for _, e := range p.Entries {
		if e.Arch == c.Arch && e.Nr == c.Nr {
			return rulesHold(e.Rules, c.Args)
		}
	}
	return false
}

// wantFiltered runs the program on the call with several ip, and answers whether it is allowed.
func wantFiltered(t *testing.T, prog []impl.Ins, p impl.Policy, c impl.Call) bool {
	t.Helper()
	allowed := refAllows(p, c)
	want := uint32(impl.RetDeny)
	if allowed {
		want = impl.RetAllow
	}
	for _, ip := range someIPs {
		if got, _, code := impl.Run(prog, impl.MakeRecord(c, ip)); code != impl.CodeOK || got != want {
			t.Errorf("%x with ip %x: result %#x and code %d, want %#x", c, ip, got, code, want)
		}
	}
	return allowed
}

// holding is a value for which the condition holds.
func holding(c impl.Con) uint64 {
	if c.Kind == impl.ConRange {
		return c.A
	}
	return c.B
}

// beside are values at the edges of the condition's set, on both sides, and at the edges of their halves.
func beside(c impl.Con) []uint64 {
	out := []uint64{0, allOnes, 1 << 32, allOnes64}
	for _, v := range []uint64{c.A, c.B} {
		out = append(out, v-1, v, v+1, v-1<<32, v+1<<32, v&^allOnes, v|allOnes, v&allOnes)
	}
	if c.Kind == impl.ConMask {
		out = append(out, c.B|^c.A)
		for i := range 64 {
			out = append(out, c.B^1<<i)
		}
	}
	return out
}

// callsBeside are calls for which one rule holds but for one argument at a time, and calls with an Arch or Nr beside
// those of the entry.
func callsBeside(e impl.Entry, r impl.Rule) []impl.Call {
	base := call(e.Arch, e.Nr)
	for _, c := range r.Cons {
		base.Args = append(base.Args, holding(c))
	}
	out := []impl.Call{base, call(e.Nr, e.Arch, base.Args...)}
	for _, d := range []uint32{1, allOnes, 1 << 31} {
		out = append(out, call(e.Arch+d, e.Nr, base.Args...), call(e.Arch, e.Nr+d, base.Args...))
	}
	for i, c := range r.Cons {
		for _, v := range beside(c) {
			other := call(e.Arch, e.Nr, slices.Clone(base.Args)...)
			other.Args[i] = v
			out = append(out, other)
		}
	}
	return out
}

// wantFilter asks the compiled program about calls at all edges of the policy; it answers how many were denied and how
// many allowed.
func wantFilter(t *testing.T, name string, p impl.Policy) [2]int {
	t.Helper()
	count := [2]int{}
	prog := filterOf(t, p)
	for _, e := range p.Entries {
		for _, r := range e.Rules {
			for _, c := range callsBeside(e, r) {
				if wantFiltered(t, prog, p, c) {
					count[1]++
				} else {
					count[0]++
				}
			}
		}
	}
	if t.Failed() {
		t.Fatalf("%s: the policy %x", name, p)
	}
	return count
}
