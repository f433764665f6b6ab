package tests

import (
	"bytes"
	"runtime"
	"slices"
	"testing"
	"time"

	"loop.example/s0039/impl"
)

// loggedCalls is the log of the calls, made without the program.
func loggedCalls(calls []impl.Call) []byte {
	var bodies [][]byte
	for _, c := range calls {
		bodies = append(bodies, bodyOfCall(c))
	}
	return logOf(bodies...)
}

// refSynth is the report on a good log of the calls, word by word after the document; what the program would allow is
// taken from P14.
func refSynth(ref refLearner, calls []impl.Call, k impl.Knobs) impl.Report {
	learned := ref.learn(calls, k)
	small := impl.Policy{}
	out := impl.Report{Calls: len(calls), Distinct: len(impl.Distinct(calls))}
	for _, e := range learned.Entries {
		rules := ref.rules(e.Rules)
		small.Entries = append(small.Entries, entry(e.Arch, e.Nr, rules...))
		out.Learned += len(e.Rules)
		out.Rules += len(rules)
	}
	prog := refLayout(refCompile(small))
	if len(prog) > impl.MaxProgram {
		out.Code = impl.CodeTooLarge
		return out
	}
	out.Program = programBytes(prog)
	out.Allowed = len(calls)
	return out
}

func programBytes(prog []impl.Ins) []byte {
	var out []byte
	for _, ins := range prog {
		out = append(out, byte(ins.Code), byte(ins.Code>>8), ins.Jt, ins.Jf, byte(ins.K), byte(ins.K>>8), byte(ins.K>>16), byte(ins.K>>24))
	}
	return out
}

// withoutProgram are the numbers of the report.
func withoutProgram(r impl.Report) [7]int {
	return [7]int{r.Code, r.At, r.Calls, r.Distinct, r.Learned, r.Rules, r.Allowed}
}

// wantReport looks at every field.
func wantReport(t *testing.T, name string, got, want impl.Report) {
	t.Helper()
	if withoutProgram(got) != withoutProgram(want) {
		t.Errorf("%s: Code, At, Calls, Distinct, Learned, Rules and Allowed are %v, want %v", name, withoutProgram(got), withoutProgram(want))
	}
	if !bytes.Equal(got.Program, want.Program) {
		t.Errorf("%s: %d bytes of a program, want %d, or other ones", name, len(got.Program), len(want.Program))
	}
}

// reportOn is the report on the log of the calls; it is to be CodeOK, with a valid program.
func reportOn(t *testing.T, calls []impl.Call, k impl.Knobs) (impl.Report, []impl.Ins) {
	t.Helper()
	r := impl.Synth(loggedCalls(calls), k)
	if r.Code != impl.CodeOK || r.At != 0 {
		t.Fatalf("code %d at %d, want CodeOK", r.Code, r.At)
	}
	prog, code := impl.DecodeProgram(r.Program)
	if code != impl.CodeOK {
		t.Fatalf("%d bytes are no program", len(r.Program))
	}
	wantFault(t, "the program of the report", prog, impl.FaultNone, 0)
	return r, prog
}

// P14, 5.3, 1: knobs that are not valid come first, whatever the log is.
func TestSynthKnobsNotValid(t *testing.T) {
	good := loggedCalls(oneCalls(values(1), values(2)))
	for _, k := range wrongKnobs() {
		for _, log := range [][]byte{good, nil, good[:9], with(good, 0, 0), append(slices.Clone(good), 1), logHead(0), logHead(2000)} {
			wantReport(t, "not valid", impl.Synth(log, k), impl.Report{Code: impl.CodeBad})
		}
	}
}

// P14, 5.3, 2: each of the codes of DecodeLog with its offset, and nothing else.
func TestSynthLogNotGood(t *testing.T) {
	good := loggedCalls(oneCalls(values(1), values(2)))
	cases := []struct {
		name     string
		log      []byte
		code, at int
	}{
		{"nothing", nil, impl.CodeShort, 0},
		{"half a head", good[:5], impl.CodeShort, 5},
		{"the head alone", good[:7], impl.CodeShort, 7},
		{"cut off", good[:len(good)-1], impl.CodeShort, len(good) - 1},
		{"the second call missing", good[:20], impl.CodeShort, 20},
		{"the first byte", with(good, 0, 0), impl.CodeHeader, 0},
		{"the fourth byte", with(good, 3, 0), impl.CodeHeader, 3},
		{"another version", with(good, 4, 2), impl.CodeVersion, 4},
		{"too many calls", with(good, 6, 255), impl.CodeCount, 5},
		{"a short body", with(good, 7, 7), impl.CodeLength, 7},
		{"a long body", with(good, 20, 71), impl.CodeLength, 20},
		{"the sum of the first", with(good, 10, 77), impl.CodeSum, 16},
		{"the sum of the second", with(good, 29, good[29]+1), impl.CodeSum, 29},
		{"the first body", logOf(zeros(9), zeros(8)), impl.CodeBody, 8},
		{"the second body", logOf(zeros(8), zeros(9)), impl.CodeBody, 21},
		{"bytes behind", append(slices.Clone(good), 0), impl.CodeExtra, len(good)},
		{"bytes behind no call", append(logHead(0), 0), impl.CodeExtra, 7},
	}
	met := map[int]bool{}
	for _, c := range cases {
		wantLogFault(t, c.name, c.log, c.code, c.at)
		met[c.code] = true
		for _, k := range []impl.Knobs{{}, knobs(200, 200, impl.FormRange)} {
			wantReport(t, c.name, impl.Synth(c.log, k), impl.Report{Code: c.code, At: c.at})
		}
	}
	for code := impl.CodeHeader; code <= impl.CodeExtra; code++ {
		if !met[code] {
			t.Errorf("no log met code %d", code)
		}
	}
}

// P14, 5.3: the empty log gives a program of one instruction, which denies.
func TestSynthEmptyLog(t *testing.T) {
	for _, k := range []impl.Knobs{{}, knobs(200, 200, impl.FormRange)} {
		wantReport(t, "no call", impl.Synth(logHead(0), k), impl.Report{Program: []byte{6, 0, 0, 0, 0, 0, 0, 0x80}})
		_, prog := reportOn(t, nil, k)
		for _, c := range edgeCalls() {
			wantFiltered(t, prog, impl.Policy{}, c)
		}
	}
}

// P14, P15, 5.3: a log with one call, once and twice.
func TestSynthOneCall(t *testing.T) {
	for _, c := range append(edgeCalls(), call(allOnes, allOnes, allOnes64, allOnes64, allOnes64, allOnes64, allOnes64, allOnes64), zeroCall()) {
		p := policy(entry(c.Arch, c.Nr, pointRule(c.Args...)))
		want := impl.Report{Calls: 1, Distinct: 1, Learned: 1, Rules: 1, Allowed: 1, Program: programBytes(refLayout(refCompile(p)))}
		for _, k := range []impl.Knobs{{}, knobs(1, 0, impl.FormMask), knobs(200, 200, impl.FormRange)} {
			wantReport(t, "one call", impl.Synth(loggedCalls([]impl.Call{c}), k), want)
			twice := want
			twice.Calls, twice.Allowed = 2, 2
			wantReport(t, "twice", impl.Synth(loggedCalls([]impl.Call{c, c}), k), twice)
		}
	}
	_, prog := reportOn(t, oneCalls(values(4, 5, 6, 7, 8, 1<<40)), impl.Knobs{})
	p := onePolicy(pointRule(4, 5, 6, 7, 8, 1<<40))
	for _, c := range callsBeside(p.Entries[0], p.Entries[0].Rules[0]) {
		wantFiltered(t, prog, p, c)
	}
}

// P14, 5.3, 4: each number of the report is another one.
func TestSynthNumbers(t *testing.T) {
	calls := append(oneCalls(values(5), values(4), values(5), values(5), values(9, 1), values(4)), call(9, 4, 1, 1, 1, 1, 1, 1))
	// Three different lists of one number and one of another; 4 and 5 join.
	small := policy(entry(9, 3, oneRule(maskCon(allOnes64-1, 4)), oneRule(pointCon(9), pointCon(1))), entry(9, 4, pointRule(1, 1, 1, 1, 1, 1)))
	want := impl.Report{Calls: 7, Distinct: 4, Learned: 4, Rules: 3, Allowed: 7, Program: programBytes(refLayout(refCompile(small)))}
	wantReport(t, "exact", impl.Synth(loggedCalls(calls), knobs(3, 0, impl.FormMask)), want)
	// Split at index 0: 4, 5 and 9, of which the first two join.
	wantReport(t, "split", impl.Synth(loggedCalls(calls), knobs(2, 3, impl.FormRange)), want)
	small.Entries[0].Rules = []impl.Rule{oneRule(rangeCon(4, 9), maskCon(allOnes64-1, 0))}
	want = impl.Report{Calls: 7, Distinct: 4, Learned: 2, Rules: 2, Allowed: 7, Program: programBytes(refLayout(refCompile(small)))}
	wantReport(t, "whole", impl.Synth(loggedCalls(calls), knobs(2, 1, impl.FormRange)), want)
}

// largeLog has one rule of 25 instructions for each of the singles, and one of 26 for each of the pairs, which join;
// about them stand 7.
func largeLog(singles, pairs int) []impl.Call {
	var out []impl.Call
	for i := range uint64(singles + pairs) {
		c := call(9, 3, 10*i, 20*i, 30*i, 40*i, 50*i, 60*i)
		out = append(out, c)
		if i >= uint64(singles) {
			out = append(out, call(9, 3, append([]uint64{c.Args[0] + 1}, c.Args[1:]...)...))
		}
	}
	return out
}

// P14, 5.3, 3: a program that is too large.
func TestSynthTooLarge(t *testing.T) {
	exact := knobs(200, 0, 0)
	wantReport(t, "180", impl.Synth(loggedCalls(largeLog(180, 0)), exact),
		impl.Report{Code: impl.CodeTooLarge, Calls: 180, Distinct: 180, Learned: 180, Rules: 180})
	twice := append(largeLog(164, 0), largeLog(164, 0)...)
	wantReport(t, "164, each twice", impl.Synth(loggedCalls(twice), exact),
		impl.Report{Code: impl.CodeTooLarge, Calls: 328, Distinct: 164, Learned: 164, Rules: 164})
	r, prog := reportOn(t, largeLog(163, 0), exact)
	if want := [7]int{0, 0, 163, 163, 163, 163, 163}; len(prog) != 7+163*25 || withoutProgram(r) != want {
		t.Errorf("163: %d instructions, %v", len(prog), withoutProgram(r))
	}
	r, _ = reportOn(t, largeLog(180, 0), knobs(179, 0, impl.FormRange))
	if want := [7]int{0, 0, 180, 180, 1, 1, 180}; withoutProgram(r) != want {
		t.Errorf("180 in one rule: %v", withoutProgram(r))
	}
}

// P14: programs of exactly MaxProgram instructions and of one more, from a log.
func TestSynthFullProgram(t *testing.T) {
	exact := knobs(200, 0, 0)
	r, prog := reportOn(t, largeLog(149, 14), exact)
	if want := [7]int{0, 0, 177, 177, 177, 163, 177}; len(prog) != impl.MaxProgram || withoutProgram(r) != want {
		t.Errorf("%d instructions, %v", len(prog), withoutProgram(r))
	}
	wantReport(t, "one more", impl.Synth(loggedCalls(largeLog(148, 15)), exact),
		impl.Report{Code: impl.CodeTooLarge, Calls: 178, Distinct: 178, Learned: 178, Rules: 163})
	ref := refLearner{newRef()}
	for pairs := 11; pairs < 18; pairs++ {
		calls := largeLog(163-pairs, pairs)
		wantReport(t, "about the limit", impl.Synth(loggedCalls(calls), exact), refSynth(ref, calls, exact))
	}
}

// fewNumbers are n different calls of 21 entries at the most.
func fewNumbers(n int) []impl.Call {
	var out []impl.Call
	for i := range uint64(n) {
		out = append(out, call(uint32(i%3), uint32(i%7), i, i*i, 0, i<<32, i&6, i*i*i*i*i*i))
	}
	return out
}

// P14: Allowed is Calls, also with MaxCalls calls, equal or not.
func TestSynthManyCalls(t *testing.T) {
	same := make([]impl.Call, impl.MaxCalls)
	for i := range same {
		same[i] = oneCalls(values(5, 6))[0]
	}
	r, _ := reportOn(t, same, impl.Knobs{})
	if want := [7]int{0, 0, 1000, 1, 1, 1, 1000}; withoutProgram(r) != want {
		t.Errorf("equal calls: %v", withoutProgram(r))
	}
	many := fewNumbers(impl.MaxCalls)
	for _, k := range []impl.Knobs{{}, knobs(6, 0, impl.FormMask), knobs(0, 1, impl.FormRange)} {
		r, prog := reportOn(t, many, k)
		if want := [7]int{0, 0, 1000, 1000, 21, 21, 1000}; withoutProgram(r) != want {
			t.Errorf("different calls: %v", withoutProgram(r))
		}
		for _, c := range many {
			if got, _, _ := impl.Run(prog, impl.MakeRecord(c, 0)); got != impl.RetAllow {
				t.Errorf("%v is not allowed", c)
			}
		}
	}
	for _, k := range []impl.Knobs{{}, knobs(200, 0, 0), knobs(0, 200, 0)} {
		wantReport(t, "different calls", impl.Synth(loggedCalls(many), k), refSynth(refLearner{newRef()}, many, k))
	}
	more := with(loggedCalls(many), 5, 0xe9)
	wantReport(t, "one more", impl.Synth(more, impl.Knobs{}), impl.Report{Code: impl.CodeCount, At: 5})
}

// P16: the same set of calls, in another order and repeated, gets the same code and program.
func TestSynthSameSet(t *testing.T) {
	n := &numbers{state: 131}
	codes := map[int]int{}
	for range 300 {
		calls, k := randomLogged(n), randomKnobs(n)
		first := impl.Synth(loggedCalls(calls), k)
		for range 3 {
			more := shuffled(n, calls)
			for range n.below(4) {
				more = append(more, shuffled(n, calls)[:n.below(len(calls)+1)]...)
			}
			want := first
			want.Calls, want.Allowed = len(more), len(more)
			wantReport(t, "the same set", impl.Synth(loggedCalls(more), k), want)
		}
		codes[first.Code]++
	}
	var large []impl.Call
	for i := range uint64(200) {
		large = append(large, call(9, 3, i*i, i*i*i, i, i<<32, 0, i*7), call(1, 1, i*i, 1, 2, 3, 4, i<<40))
	}
	for _, k := range []impl.Knobs{knobs(200, 0, 0), knobs(0, 0, 0)} {
		first := impl.Synth(loggedCalls(large), k)
		second := impl.Synth(loggedCalls(shuffled(n, append(large, large[:77]...))), k)
		if first.Code != second.Code || !bytes.Equal(first.Program, second.Program) {
			t.Errorf("codes %d and %d, or other programs", first.Code, second.Code)
		}
		codes[first.Code]++
	}
	if codes[impl.CodeOK] < 300 || codes[impl.CodeTooLarge] == 0 {
		t.Errorf("codes met: %v", codes)
	}
}

// 5.3: the answer is the same at every run, on one processor and on many.
func TestSynthEveryRun(t *testing.T) {
	log, k := loggedCalls(fewNumbers(300)), knobs(3, 4, impl.FormSmaller)
	want := impl.Synth(log, k)
	if want.Code != impl.CodeOK {
		t.Fatalf("code %d", want.Code)
	}
	defer runtime.GOMAXPROCS(runtime.GOMAXPROCS(0))
	for _, processors := range []int{1, 2, 8} {
		runtime.GOMAXPROCS(processors)
		for range 20 {
			wantReport(t, "again", impl.Synth(log, k), want)
		}
	}
}

// Ways, 5: no worker is left when the reports are answered, be the log good or not.
func TestSynthWorkersEnd(t *testing.T) {
	before := runtime.NumGoroutine()
	for _, calls := range [][]impl.Call{nil, fewNumbers(1), fewNumbers(100)} {
		for range 30 {
			impl.Synth(loggedCalls(calls), impl.Knobs{})
			impl.Synth(loggedCalls(calls)[:6], impl.Knobs{})
		}
	}
	// A worker that has said its last word may need a moment to be gone.
	for range 2000 {
		if runtime.NumGoroutine() <= before {
			return
		}
		time.Sleep(time.Millisecond)
	}
	t.Errorf("%d goroutines, before %d", runtime.NumGoroutine(), before)
}

// P14: Synth can be called from several places at once.
func TestSynthSideBySide(t *testing.T) {
	log, k := loggedCalls(fewNumbers(200)), knobs(2, 0, impl.FormRange)
	want := impl.Synth(log, k)
	if want.Allowed != 200 {
		t.Fatalf("code %d", want.Code)
	}
	reports := make(chan impl.Report)
	for range 8 {
		go func() { reports <- impl.Synth(log, k) }()
	}
	for range 8 {
		wantReport(t, "side by side", <-reports, want)
	}
}

// Rules for all chapters: the argument is as it was, and the answer is new memory.
func TestSynthMemory(t *testing.T) {
	log, k := loggedCalls(fewNumbers(20)), knobs(2, 0, impl.FormMask)
	before := slices.Clone(log)
	first, second := impl.Synth(log, k), impl.Synth(log, k)
	kept := slices.Clone(second.Program)
	if !bytes.Equal(log, before) {
		t.Error("Synth wrote into its argument")
	}
	clear(first.Program[:cap(first.Program)])
	if !bytes.Equal(log, before) || !bytes.Equal(second.Program, kept) {
		t.Error("the answer shares memory with the log or with another answer")
	}
	clear(log)
	if !bytes.Equal(second.Program, kept) {
		t.Error("the answer hangs on the log after Synth has answered")
	}
	bad := with(before, len(before)-1, before[len(before)-1]+1)
	copied := slices.Clone(bad)
	impl.Synth(bad, k)
	if !bytes.Equal(bad, copied) {
		t.Error("Synth wrote into a log that is not good")
	}
}
