package tests

import (
	"math/rand"
	"reflect"
	"strings"
	"sync"
	"testing"

	"loop.example/onceways/impl"
)

// A flowAt is what is there and wanted of a term at one block.
type flowAt struct{ thereIn, thereOut, wantedIn, wantedOut, maybeIn bool }

// askedFlow asks the program.
func askedFlow(p impl.Prog, name, term string) flowAt {
	return flowAt{impl.ThereIn(p, name, term), impl.ThereOut(p, name, term), impl.WantedIn(p, name, term), impl.WantedOut(p, name, term), impl.MaybeIn(p, name, term)}
}

// flowText writes it as FlowOf does.
func flowText(f flowAt) string {
	text := ""
	for _, mark := range []struct {
		letter string
		on     bool
	}{{"t", f.thereIn}, {"T", f.thereOut}, {"w", f.wantedIn}, {"W", f.wantedOut}} {
		if mark.on {
			text += mark.letter
		}
	}
	return text
}

// thereBehind tells whether a term is there behind letters: what is told of it last is that it is computed.
func thereBehind(ops, term string) bool {
	return strings.LastIndex(ops, term) > strings.LastIndex(ops, strings.ToUpper(term))
}

// wantedAhead tells whether a term is computed in letters before it is spoilt.
func wantedAhead(ops, term string) bool {
	first := strings.IndexAny(ops, term+strings.ToUpper(term))
	return first >= 0 && ops[first:first+1] == term
}

// flowOnRuns tells by the letters of all runs of some length at most what is there and wanted at each block.
func flowOnRuns(p impl.Prog, term string, most int) map[string]flowAt {
	flow := map[string]flowAt{}
	for _, b := range p.Blocks {
		flow[b.Name] = flowAt{true, true, true, true, false}
	}
	for n := 2; n <= most; n++ {
		for _, run := range slowWays(p, p.Blocks[0].Name, n) {
			for i := range run {
				f := flow[run[i:i+1]]
				ahead, upTo, from, behind := slowOps(p, run[:i]), slowOps(p, run[:i+1]), slowOps(p, run[i:]), slowOps(p, run[i+1:])
				f.thereIn = f.thereIn && thereBehind(ahead, term)
				f.thereOut = f.thereOut && thereBehind(upTo, term)
				f.wantedIn = f.wantedIn && wantedAhead(from, term)
				f.wantedOut = f.wantedOut && wantedAhead(behind, term)
				f.maybeIn = f.maybeIn || thereBehind(ahead, term)
				flow[run[i:i+1]] = f
			}
		}
	}
	return flow
}

// A coming is a block and whether the term is there as one comes to it.
type coming struct {
	name  string
	there bool
}

// slowComings returns all comings, each found by going on along edges from another one.
func slowComings(p impl.Prog, term string) []coming {
	list := []coming{{p.Blocks[0].Name, false}}
	found := map[coming]bool{list[0]: true}
	for i := 0; i < len(list); i++ {
		text := slowOps(p, list[i].name)
		if list[i].there {
			text = term + text
		}
		for _, e := range p.Edges {
			next := coming{e.To, thereBehind(text, term)}
			if e.From == list[i].name && !found[next] {
				found[next] = true
				list = append(list, next)
			}
		}
	}
	return list
}

// slowWanted follows all ways from some blocks until the term is computed, and tells whether none spoils it or ends.
func slowWanted(p impl.Prog, term string, names []string) bool {
	found := map[string]bool{}
	for i := 0; i < len(names); i++ {
		ops := slowOps(p, names[i])
		if found[names[i]] || wantedAhead(ops, term) {
			continue
		}
		found[names[i]] = true
		if strings.Contains(ops, strings.ToUpper(term)) || names[i] == p.Blocks[len(p.Blocks)-1].Name {
			return false
		}
		names = append(names, nextOf(p, names[i])...)
	}
	return true
}

// nextOf returns the blocks to which edges lead from a block.
func nextOf(p impl.Prog, name string) []string {
	var list []string
	for _, e := range p.Edges {
		if e.From == name {
			list = append(list, e.To)
		}
	}
	return list
}

// slowFlow tells by comings and by following ways what is there and wanted at each block.
func slowFlow(p impl.Prog, term string) map[string]flowAt {
	flow := map[string]flowAt{}
	for _, b := range p.Blocks {
		next := nextOf(p, b.Name)
		flow[b.Name] = flowAt{
			thereIn: true, thereOut: true,
			wantedIn:  slowWanted(p, term, []string{b.Name}),
			wantedOut: len(next) > 0 && slowWanted(p, term, next),
		}
	}
	for _, c := range slowComings(p, term) {
		f, text := flow[c.name], slowOps(p, c.name)
		if c.there {
			text = term + text
		}
		f.thereIn = f.thereIn && c.there
		f.maybeIn = f.maybeIn || c.there
		f.thereOut = f.thereOut && thereBehind(text, term)
		flow[c.name] = f
	}
	return flow
}

// checkFlow holds all that the chapter's functions tell of a term against what is there and wanted at each block.
func checkFlow(t *testing.T, p impl.Prog, term string, flow map[string]flowAt) {
	t.Helper()
	var texts []string
	needless, partly := "", ""
	for _, b := range p.Blocks {
		want := flow[b.Name]
		if got := askedFlow(p, b.Name, term); got != want {
			t.Fatalf("block %q of %q has %v of %q, not %v", b.Name, impl.FormatProg(p), got, term, want)
		}
		texts = append(texts, b.Name+flowText(want))
		switch {
		case !wantedAhead(b.Ops, term):
		case want.thereIn:
			needless += b.Name
		case want.maybeIn:
			partly += b.Name
		}
	}
	if got, ok := impl.FlowOf(p, term); got != strings.Join(texts, " ") || !ok {
		t.Fatalf("FlowOf(%q, %q) = %q, %v", impl.FormatProg(p), term, got, ok)
	}
	if got, ok := impl.NeedlessIn(p, term); got != needless || !ok {
		t.Fatalf("NeedlessIn(%q, %q) = %q, %v", impl.FormatProg(p), term, got, ok)
	}
	if got, ok := impl.PartlyIn(p, term); got != partly || !ok {
		t.Fatalf("PartlyIn(%q, %q) = %q, %v", impl.FormatProg(p), term, got, ok)
	}
}

func TestFlowExample(t *testing.T) {
	p := mustParse(t, example)
	for term, want := range map[string]string{"x": "AwW BTwW CwW DTw EtT", "y": "A B C D E", "z": "A B C D E"} {
		if got, ok := impl.FlowOf(p, term); got != want || !ok {
			t.Errorf("FlowOf(%q) = %q, %v", term, got, ok)
		}
	}
	for name, want := range map[string]flowAt{
		"A": {wantedIn: true, wantedOut: true},
		"B": {thereOut: true, wantedIn: true, wantedOut: true},
		"C": {wantedIn: true, wantedOut: true},
		"D": {thereOut: true, wantedIn: true, maybeIn: true},
		"E": {thereIn: true, thereOut: true, maybeIn: true},
	} {
		if got := askedFlow(p, name, "x"); got != want {
			t.Errorf("block %q has %v", name, got)
		}
		if got := askedFlow(p, name, "y"); got != (flowAt{}) {
			t.Errorf("block %q has %v of y", name, got)
		}
	}
	needless, one := impl.NeedlessIn(p, "x")
	partly, two := impl.PartlyIn(p, "x")
	if needless != "" || !one || partly != "D" || !two {
		t.Errorf("%q %v are needless and %q %v partly", needless, one, partly, two)
	}
}

// TestFlowWrittenOut has the answers for x written out, maybe being the blocks at whose beginning it is there on some way.
func TestFlowWrittenOut(t *testing.T) {
	for _, c := range []struct{ text, flow, maybe, needless, partly string }{
		// The entry and the exit.
		{"A,B:AB", "A B", "", "", ""},
		{"A,Bx:AB", "AwW BTw", "", "", ""},
		{"A,BX:AB", "A B", "", "", ""},
		{"A,BxX:AB", "AwW Bw", "", "", ""},
		{"A,BXx:AB", "A BT", "", "", ""},
		{"A,By:AB", "A B", "", "", ""},
		{"A,Bx,Cx:AB,BC", "AwW BTwW CtTw", "C", "C", ""},
		{"A,Bx,CX:AB,BC", "AwW BTw Ct", "C", "", ""},
		{"A,Bx,CXx:AB,BC", "AwW BTw CtT", "C", "", ""},
		{"A,Bx,Cx:AB,AC,BC", "AwW BTwW CTw", "C", "", "C"},
		// Blocks without letters, blocks that spoil what they compute, and blocks that only spoil.
		{"A,Bx,C,D,E:AB,BC,CD,DE", "AwW BTw CtT DtT EtT", "CDE", "", ""},
		{"A,B,C,Dx,E:AB,BC,CD,DE", "AwW BwW CwW DTw EtT", "E", "", ""},
		{"A,BxX,C,Dx,E:AB,BC,CD,DE", "AwW BwW CwW DTw EtT", "E", "", ""},
		{"A,Bx,CxX,Dx,E:AB,BC,CD,DE", "AwW BTwW CtwW DTw EtT", "CE", "C", ""},
		{"A,Bx,CXxX,Dx,E:AB,BC,CD,DE", "AwW BTw CtW DTw EtT", "CE", "", ""},
		{"A,Bx,CXx,Dx,E:AB,BC,CD,DE", "AwW BTw CtTW DtTw EtT", "CDE", "D", ""},
		{"A,Bx,CxXx,Dx,E:AB,BC,CD,DE", "AwW BTwW CtTwW DtTw EtT", "CDE", "CD", ""},
		{"A,Bx,CX,Dx,E:AB,BC,CD,DE", "AwW BTw CtW DTw EtT", "CE", "", ""},
		{"A,BX,CX,D:AB,BC,CD", "A B C D", "", "", ""},
		{"A,Bx,CYy,Dx,E:AB,BC,CD,DE", "AwW BTwW CtTwW DtTw EtT", "CDE", "D", ""}, // what is done to another term does not matter
		// On each way, and on some ways alone.
		{"A,Bx,Cx,D,E:AB,AC,BD,CD,DE", "AwW BTw CTw DtT EtT", "DE", "", ""},
		{"A,Bx,C,D,E:AB,AC,BD,CD,DE", "A BTw C D E", "DE", "", ""},
		{"A,Bx,CX,Dx,E:AB,AC,BD,CD,DE", "A BTwW CW DTw EtT", "DE", "", "D"},
		{"A,B,Cx,D,E:AB,BC,BD,CE,DE", "A B CTw D E", "E", "", ""},
		{"A,B,Cx,Dx,E:AB,BC,BD,CE,DE", "AwW BwW CTw DTw EtT", "E", "", ""},
		{"A,B,Cx,DX,E:AB,BC,BD,CE,DE", "A B CTw D E", "E", "", ""},
		{"A,B,Cx,DxX,E:AB,BC,BD,CE,DE", "AwW BwW CTw Dw E", "E", "", ""},
		{"A,Bx,C,D,Ex,F:AB,AC,AD,BE,CE,DE,EF", "AwW BTwW CwW DwW ETw FtT", "EF", "", "E"},
		// Ways around a loop, and edges from a block to itself.
		{"A,Bx,C:AB,BB,BC", "AwW BTw CtT", "BC", "", "B"},
		{"A,BX,C:AB,BB,BC", "A B C", "", "", ""},
		{"A,BxX,C:AB,BB,BC", "AwW Bw C", "", "", ""},
		{"A,BXx,C:AB,BB,BC", "A BT CtT", "BC", "", ""},
		{"A,BXx,Cx:AB,BB,BC", "A BT CtTw", "BC", "C", ""},
		{"A,B,Cx,D:AB,BB,BC,CD", "AwW BwW CTw DtT", "D", "", ""}, // a way that goes around B for ever does not count
		{"A,B,C,Dx,E:AB,BC,CB,CD,DE", "AwW BwW CwW DTw EtT", "E", "", ""},
		{"A,B,C,D:AB,BC,CB,CD", "A B C D", "", "", ""}, // going around proves nothing
		{"A,B,C:AB,BB,BC", "A B C", "", "", ""},
		{"A,Bx,C,D:AB,BC,CC,CD", "AwW BTw CtT DtT", "CD", "", ""}, // going around refutes nothing
		{"A,Bx,C,D,E:AB,BC,CD,DC,DE", "AwW BTw CtT DtT EtT", "CDE", "", ""},
		{"A,Bx,C,DX,E:AB,BC,CD,DC,DE", "AwW BTw C D E", "CD", "", ""}, // spoilt in the loop, it comes around so
		{"A,Bx,Cx,DX,E:AB,BC,CD,DC,DE", "AwW BTwW CTw Dt E", "CD", "", "C"},
		{"A,B,C,Dx,E:AB,BC,CD,DC,DE", "AwW BwW CwW DTw EtT", "CDE", "", "D"}, // computed in the loop, it comes around on one way
		{"A,B,Cx,D:AB,BC,CB,CD", "AwW BwW CTw DtT", "BCD", "", "C"},
		{"A,B,Cx,D:AB,BC,CC,CD", "AwW BwW CTw DtT", "CD", "", "C"},
		{"A,B,C,Dx,E:AB,BC,CB,CD,DE,BE", "A B C DTw E", "E", "", ""}, // out of the loop there are two ways
		{"A,Bx,C,D,E,F,G,H,I:AB,BC,CD,DE,EF,FG,GH,HI,HB,BB", "AwW BTw CtT DtT EtT FtT GtT HtT ItT", "BCDEFGHI", "", "B"},
		{"A,B,C,D,E,F,G,H,Ix:AB,BC,CD,DE,EF,FG,GH,HI,HB,BB", "AwW BwW CwW DwW EwW FwW GwW HwW ITw", "", "", ""},
	} {
		p := mustParse(t, c.text)
		flow, one := impl.FlowOf(p, "x")
		needless, two := impl.NeedlessIn(p, "x")
		partly, three := impl.PartlyIn(p, "x")
		if flow != c.flow || needless != c.needless || partly != c.partly || !one || !two || !three {
			t.Errorf("%q has %q, %q and %q", c.text, flow, needless, partly)
		}
		for i, part := range strings.Split(c.flow, " ") {
			got := askedFlow(p, p.Blocks[i].Name, "x")
			if part != p.Blocks[i].Name+flowText(got) || got.maybeIn != strings.Contains(c.maybe, p.Blocks[i].Name) {
				t.Errorf("block %q of %q has %v", p.Blocks[i].Name, c.text, got)
			}
		}
	}
}

// TestFlowOfAllEdges has every set of edges among a few blocks, against all runs that are long enough to tell: each block
// is come to with the term there and without it within six blocks, and left for the exit within three.
func TestFlowOfAllEdges(t *testing.T) {
	words := []string{"", "x", "X", "xX", "Xx", "y", "xXx", "XxX"}
	dice := rand.New(rand.NewSource(5))
	for _, p := range smallProgs() {
		for range 5 {
			diceOps(dice, p, words)
			checkFlow(t, p, "x", flowOnRuns(p, "x", 9))
			checkFlow(t, p, "x", slowFlow(p, "x"))
		}
	}
}

// smallProgs returns a program of blocks that do nothing for each set of edges among a few of them that makes one valid.
func smallProgs() []impl.Prog {
	var list []impl.Prog
	for _, names := range []string{"AB", "CAB", "ADCB"} {
		n := len(names)
		for set := range 1 << (n * n) {
			p := impl.Prog{Blocks: chain(names)}
			for i := range n * n {
				if set>>i&1 == 1 {
					p.Edges = append(p.Edges, edge(names[i/n:i/n+1], names[i%n:i%n+1]))
				}
			}
			if slowValid(p) {
				list = append(list, p)
			}
		}
	}
	return list
}

// diceOps makes up what all blocks but the entry do.
func diceOps(dice *rand.Rand, p impl.Prog, words []string) {
	for i := 1; i < len(p.Blocks); i++ {
		p.Blocks[i].Ops = words[dice.Intn(len(words))]
	}
}

// TestFlowOfAllWords has a block with all words of a few letters, behind and ahead of blocks that compute and spoil.
func TestFlowOfAllWords(t *testing.T) {
	for _, word := range append(allWords("xX", 6), allWords("xXyY", 3)...) {
		for _, text := range []string{"A,B%,C:AB,BC", "A,B%,C:AB,BB,BC", "A,Bx,C%,Dx:AB,BC,CD", "A,BX,C%,DX:AB,BC,CD", "A,Bx,C%,D:AB,AC,BC,CD,CB", "A,C,B%:AC,AB,CB,CC"} {
			p := mustParse(t, strings.Replace(text, "%", word, 1))
			for _, term := range []string{"x", "y"} {
				checkFlow(t, p, term, slowFlow(p, term))
			}
		}
	}
}

// TestFlowOfProgs has larger programs, and holds what is there and wanted against their runs as well.
func TestFlowOfProgs(t *testing.T) {
	for _, p := range someProgs(t, 300) {
		runs := sampleRuns(p)
		for _, term := range []string{"x", "y", "z"} {
			flow := slowFlow(p, term)
			checkFlow(t, p, term, flow)
			for _, run := range runs {
				for i := range run {
					f := flow[run[i:i+1]]
					there, wanted := thereBehind(slowOps(p, run[:i]), term), wantedAhead(slowOps(p, run[i:]), term)
					if f.thereIn && !there || there && !f.maybeIn || f.wantedIn && !wanted {
						t.Fatalf("%q on %q of %q: %v at %d", term, run, impl.FormatProg(p), f, i)
					}
				}
			}
		}
	}
}

// TestFlowOfThinProgs has programs that do little, so that much goes around their loops.
func TestFlowOfThinProgs(t *testing.T) {
	dice := rand.New(rand.NewSource(6))
	for _, p := range someProgs(t, 300) {
		for i := 1; i < len(p.Blocks); i++ {
			p.Blocks[i].Ops = []string{"", "", "", "", "y", "x", "X", "xX"}[dice.Intn(8)]
		}
		for _, term := range []string{"x", "y", "z"} {
			checkFlow(t, p, term, slowFlow(p, term))
		}
	}
}

// TestFlowInTheOrderOfBlocks has names that are in no order, and asks often.
func TestFlowInTheOrderOfBlocks(t *testing.T) {
	p := mustParse(t, "I,Dx,Gx,Bx,Ax,CX,H:ID,DG,GB,BA,AC,CH,IA,IB")
	for range 50 {
		flow, one := impl.FlowOf(p, "x")
		needless, two := impl.NeedlessIn(p, "x")
		partly, three := impl.PartlyIn(p, "x")
		if flow != "IwW DTwW GtTwW BTwW ATw Ct H" || needless != "G" || partly != "BA" || !one || !two || !three {
			t.Fatalf("%q, %q and %q", flow, needless, partly)
		}
	}
}

// TestFlowOfTermsApart has each term at another block.
func TestFlowOfTermsApart(t *testing.T) {
	p := mustParse(t, "A,Bx,Cy,DzY,Exyz,F:AB,BC,CD,DE,EF")
	for term, want := range map[string][2]string{
		"x": {"AwW BTwW CtTwW DtTwW EtTw FtT", "E"},
		"y": {"AwW BwW CTw DtW ETw FtT", ""},
		"z": {"AwW BwW CwW DTwW EtTw FtT", "E"},
	} {
		flow, one := impl.FlowOf(p, term)
		needless, two := impl.NeedlessIn(p, term)
		if flow != want[0] || needless != want[1] || !one || !two {
			t.Errorf("%q has %q and %q", term, flow, needless)
		}
	}
}

// TestFlowOfOtherProgs has programs that differ in names, in terms or in what is computed again in a block.
func TestFlowOfOtherProgs(t *testing.T) {
	for _, p := range someProgs(t, 30) {
		tidy, _ := impl.Tidy(p)
		for _, pair := range []string{"xy", "yz", "zx", "xx"} {
			one, two := pair[:1], pair[1:]
			swapped, _ := impl.SwapTerms(p, one, two)
			a, _ := impl.FlowOf(p, one)
			b, _ := impl.FlowOf(swapped, two)
			if c, _ := impl.FlowOf(tidy, one); a == "" || a != b || a != c {
				t.Fatalf("%q has %q of %q, but %q of %q swapped and %q tidy", impl.FormatProg(p), a, one, b, two, c)
			}
		}
	}
}

// TestFlowAskedAtOnce asks from several goroutines, which get the same answers.
func TestFlowAskedAtOnce(t *testing.T) {
	p := mustParse(t, manyText)
	want, _ := impl.FlowOf(p, "x")
	atOnce(func() {
		if got, ok := impl.FlowOf(p, "x"); got != want || !ok {
			t.Errorf("FlowOf = %q, %v", got, ok)
		}
	})
}

// atOnce asks again and again from several goroutines.
func atOnce(ask func()) {
	var all sync.WaitGroup
	for range 8 {
		all.Add(1)
		go func() {
			defer all.Done()
			for range 50 {
				ask()
			}
		}()
	}
	all.Wait()
}

// noFlow holds the answers of the functions that tell of all blocks where there is none.
func noFlow(t *testing.T, what string, p impl.Prog, term string) {
	t.Helper()
	flow, one := impl.FlowOf(p, term)
	needless, two := impl.NeedlessIn(p, term)
	partly, three := impl.PartlyIn(p, term)
	if flow != "" || needless != "" || partly != "" || one || two || three {
		t.Errorf("%s, %.40q: %q %v, %q %v, %q %v", what, term, flow, one, needless, two, partly, three)
	}
}

func TestFlowOfNoBlock(t *testing.T) {
	p := mustParse(t, example)
	for _, name := range notNames {
		for _, term := range append([]string{"x", "y", "z"}, notTerms...) {
			if got := askedFlow(p, name, term); got != (flowAt{}) {
				t.Errorf("block %.40q has %v of %.40q", name, got, term)
			}
		}
	}
}

func TestFlowOfNoTerm(t *testing.T) {
	for _, text := range []string{example, "A,BxyzXYZ,Cxyz:AB,BC,BB"} {
		p := mustParse(t, text)
		for _, term := range notTerms {
			for _, b := range p.Blocks {
				if got := askedFlow(p, b.Name, term); got != (flowAt{}) {
					t.Errorf("block %q has %v of %.40q", b.Name, got, term)
				}
			}
			noFlow(t, text, p, term)
		}
	}
}

func TestFlowOfProgsThatAreNotValid(t *testing.T) {
	for what, p := range badProgs() {
		for _, term := range []string{"x", "y", "z", "X", ""} {
			for _, name := range []string{"A", "B", "C", "J", "", "BB", "b"} {
				if got := askedFlow(p, name, term); got != (flowAt{}) {
					t.Errorf("%s: block %q has %v of %q", what, name, got, term)
				}
			}
			noFlow(t, what, p, term)
		}
	}
}

// TestFlowArgumentsStay has answers that stay as well when the arguments are overwritten.
func TestFlowArgumentsStay(t *testing.T) {
	for _, prog := range []impl.Prog{mustParse(t, example), mustParse(t, fullText), mustParse(t, manyText), build(blocks("A", "Bx", "C"), "AB", "BC", "BA")} {
		p, whole := withSpare(prog)
		before := copyOf(whole)
		var texts []string
		for _, term := range []string{"x", "y", "w"} {
			for _, name := range []string{"A", "B", "E", "J"} {
				askedFlow(p, name, term)
			}
			flow, _ := impl.FlowOf(p, term)
			needless, _ := impl.NeedlessIn(p, term)
			partly, _ := impl.PartlyIn(p, term)
			texts = append(texts, flow, needless, partly)
		}
		if !reflect.DeepEqual(whole, before) {
			t.Errorf("%v became %v", before, whole)
		}
		kept := strings.Clone(strings.Join(texts, ";"))
		overwrite(whole)
		if strings.Join(texts, ";") != kept {
			t.Errorf("answers for %v became %q", before, texts)
		}
	}
}
