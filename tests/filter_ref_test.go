package tests

import (
	"fmt"
	"slices"
	"strconv"
	"strings"

	"loop.example/s0039/impl"
)

// This file lays items out and compiles policies a second time, word by word after the document, to hold the program
// against. A compiled policy is a listing: a line of text for each item, as the document writes them.

// listing tells the items of the policy, one a line.
type listing struct {
	lines  []string
	labels int
}

func (l *listing) say(form string, args ...any) {
	l.lines = append(l.lines, fmt.Sprintf(form, args...))
}

func (l *listing) newLabel(letter string) string {
	l.labels++
	return letter + strconv.Itoa(l.labels)
}

func refCompile(p impl.Policy) []impl.Item {
	l := &listing{}
	if len(p.Entries) == 0 {
		l.say("deny")
		return itemsOf(l.lines)
	}
	l.say("load 4")
	byArch := map[uint32][]impl.Entry{}
	var archs []uint32
	for _, e := range p.Entries {
		if byArch[e.Arch] == nil {
			archs = append(archs, e.Arch)
		}
		byArch[e.Arch] = append(byArch[e.Arch], e)
	}
	for _, arch := range slices.Sorted(slices.Values(archs)) {
		n := l.newLabel("N")
		l.say("unless = %d: %s", arch, n)
		l.say("load 0")
		l.tree(byArch[arch])
		l.say("%s:", n)
	}
	l.say("D:")
	l.say("deny")
	return itemsOf(l.lines)
}

func (l *listing) tree(entries []impl.Entry) {
	n := len(entries)
	if n == 1 {
		l.say("unless = %d: D", entries[0].Nr)
		l.body(entries[0])
		return
	}
	h := n / 2
	r := l.newLabel("R")
	l.say("if >= %d: %s", entries[h].Nr, r)
	l.tree(entries[:h])
	l.say("%s:", r)
	l.tree(entries[h:])
}

func (l *listing) body(e impl.Entry) {
	for j, r := range e.Rules {
		isLast := j == len(e.Rules)-1
		f := "D"
		if !isLast {
			f = l.newLabel("F")
		}
		for i, c := range r.Cons {
			l.test(i, c, f)
		}
		l.say("allow")
		if !isLast {
			l.say("%s:", f)
		}
	}
}

func (l *listing) test(i int, c impl.Con, f string) {
	lo := 16 + 8*i
	hi := lo + 4
	if c.Kind == impl.ConMask {
		for _, half := range [][3]uint64{{uint64(hi), c.A / (1 << 32), c.B / (1 << 32)}, {uint64(lo), c.A % (1 << 32), c.B % (1 << 32)}} {
			at, m, b := half[0], half[1], half[2]
			if m == 0 {
				continue
			}
			l.say("load %d", at)
			if m != allOnes {
				l.say("and %d", m)
			}
			l.say("unless = %d: %s", b, f)
		}
	}
	if c.Kind == impl.ConRange && c.A != 0 {
		p := l.newLabel("P")
		l.say("load %d", hi)
		l.say("if > %d: %s", c.A/(1<<32), p)
		l.say("unless = %d: %s", c.A/(1<<32), f)
		l.say("load %d", lo)
		l.say("unless >= %d: %s", c.A%(1<<32), f)
		l.say("%s:", p)
	}
	if c.Kind == impl.ConRange && c.B != allOnes64 {
		q := l.newLabel("Q")
		l.say("load %d", hi)
		l.say("if > %d: %s", c.B/(1<<32), f)
		l.say("unless = %d: %s", c.B/(1<<32), q)
		l.say("load %d", lo)
		l.say("if > %d: %s", c.B%(1<<32), f)
		l.say("%s:", q)
	}
}

// itemsOf reads a listing. A line that it can't read is a fault of the tests.
func itemsOf(lines []string) []impl.Item {
	labels := map[string]int{}
	number := func(label string) int {
		if _, ok := labels[label]; !ok {
			labels[label] = len(labels)
		}
		return labels[label]
	}
	var out []impl.Item
	for _, line := range lines {
		words := strings.Fields(line)
		switch first := words[0]; {
		case first == "allow":
			out = append(out, insItem(endK(0x7fff0000)))
		case first == "deny":
			out = append(out, insItem(endK(0x80000000)))
		case first == "load":
			out = append(out, insItem(byK(0x20, readNumber(words[1]))))
		case first == "and":
			out = append(out, insItem(byK(0x54, readNumber(words[1]))))
		case first == "if":
			out = append(out, ifItem(readTest(words[1]), readNumber(words[2]), number(words[3])))
		case first == "unless":
			out = append(out, unlessItem(readTest(words[1]), readNumber(words[2]), number(words[3])))
		case len(words) == 1 && strings.HasSuffix(first, ":"):
			out = append(out, labelItem(number(strings.TrimSuffix(first, ":"))))
		default:
			panic("no item: " + line)
		}
	}
	return out
}

func readTest(word string) uint16 {
	return map[string]uint16{"=": 0x15, ">": 0x25, ">=": 0x35}[word]
}

func readNumber(word string) uint32 {
	v, err := strconv.ParseUint(strings.TrimSuffix(word, ":"), 0, 32)
	if err != nil {
		panic(err)
	}
	return uint32(v)
}

// refLayout lays out valid items with good labels, with no limit on instructions. At first every branch is a short one;
// those whose distance proves too great become far ones, until all fit.
func refLayout(list []impl.Item) []impl.Ins {
	labelAt := map[int]int{}
	size := make([]int, len(list))
	for i, item := range list {
		size[i] = 1
		if item.Kind == impl.ItemLabel {
			labelAt[item.Target] = i
			size[i] = 0
		}
	}
	for {
		begins := make([]int, len(list)+1)
		for i := range list {
			begins[i+1] = begins[i] + size[i]
		}
		changed := false
		distance := make([]int, len(list))
		for i, item := range list {
			if item.Kind == impl.ItemIns || item.Kind == impl.ItemLabel {
				continue
			}
			distance[i] = begins[labelAt[item.Target]] - begins[i+1]
			if item.Kind != impl.ItemGoto && distance[i] > 255 && size[i] == 1 {
				size[i] = 2
				changed = true
			}
		}
		if !changed {
			return refInstructions(list, size, distance)
		}
	}
}

func refInstructions(list []impl.Item, size, distance []int) []impl.Ins {
	var out []impl.Ins
	for i, item := range list {
		code, k, d := item.Ins.Code, item.Ins.K, distance[i]
		skip := byK(0x05, uint32(d))
		switch {
		case item.Kind == impl.ItemIns:
			out = append(out, item.Ins)
		case item.Kind == impl.ItemGoto:
			out = append(out, skip)
		case item.Kind == impl.ItemIf && size[i] == 1:
			out = append(out, branch(code, k, uint8(d), 0))
		case item.Kind == impl.ItemIf:
			out = append(out, branch(code, k, 0, 1), skip)
		case item.Kind == impl.ItemUnless && size[i] == 1:
			out = append(out, branch(code, k, 0, uint8(d)))
		case item.Kind == impl.ItemUnless:
			out = append(out, branch(code, k, 1, 0), skip)
		}
	}
	return out
}

// refPlaces says whether every branch of the list has a label that stands later, and no two labels are the same.
func refPlaces(list []impl.Item) bool {
	for i, item := range list {
		same := func(other impl.Item) bool {
			return other.Kind == impl.ItemLabel && other.Target == item.Target
		}
		switch item.Kind {
		case impl.ItemLabel:
			if slices.ContainsFunc(list[i+1:], same) {
				return false
			}
		case impl.ItemIf, impl.ItemUnless, impl.ItemGoto:
			if !slices.ContainsFunc(list[i+1:], same) {
				return false
			}
		}
	}
	return true
}

// runItems goes through the items themselves, from label to label, on a record; they end with 0x16. Of instructions it
// knows 0x20, 0x04, 0x54 and 0x16 alone.
func runItems(list []impl.Item, rec []byte) uint32 {
	a := uint32(0)
	for i := 0; ; i++ {
		item := list[i]
		k := item.Ins.K
		holds := false
		switch item.Ins.Code {
		case 0x15:
			holds = a == k
		case 0x25:
			holds = a > k
		case 0x35:
			holds = a >= k
		case 0x45:
			holds = a&k > 0
		}
		if item.Kind == impl.ItemGoto || item.Kind == impl.ItemIf && holds || item.Kind == impl.ItemUnless && !holds {
			i = slices.Index(list, labelItem(item.Target))
			continue
		}
		if item.Kind != impl.ItemIns {
			continue
		}
		switch item.Ins.Code {
		case 0x20:
			a = uint32(rec[k]) + uint32(rec[k+1])<<8 + uint32(rec[k+2])<<16 + uint32(rec[k+3])<<24
		case 0x04:
			a += k
		case 0x54:
			a &= k
		case 0x16:
			return a
		}
	}
}
