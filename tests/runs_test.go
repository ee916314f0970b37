package tests

import (
	"math"
	"math/rand"
	"reflect"
	"slices"
	"strings"
	"testing"

	"loop.example/onceways/impl"
)

// Programs whose runs are asked for. Names, blocks and edges are in three different orders in some of them.
const (
	loopText  = "A,B,CxX,D:AB,BC,CB,BD"
	selfText  = "A,BxXy,Cz:AB,BB,BC"
	orderText = "I,D,G,B,A,C,H:ID,IG,DC,DA,GB,BH,AH,CH,GA"
	crossText = "A,D,C,B,F,E,G:AD,AC,AB,DF,CE,BF,DE,FG,EG,BE"
	manyText  = "A,Bx,CX,Dxy,E:AB,AC,AD,BB,BC,BD,CB,CC,CD,DB,DC,DD,BE,CE"
	spoilText = "A,BxX,CXx,DXxX,ExXx,F:AB,BC,CD,DE,EF,BD,CE,EB,DB"
)

// runTexts are texts of programs with branches, with loops and without.
var runTexts = append([]string{loopText, selfText, orderText, crossText, manyText, spoilText,
	"A,Dx,CyX,BzZ,E:AB,AC,AD,BE,CE,DE", // three runs, told apart by the order of blocks
	"A,BxyzXYZ,CZYXzyx,Dx,E:AB,AC,BC,CB,BD,CD,DE,DB",
}, goodTexts...)

// someProgs returns the programs of runTexts and others of all sizes that a seed tells.
func someProgs(t *testing.T, others int) []impl.Prog {
	t.Helper()
	var list []impl.Prog
	for _, text := range runTexts {
		list = append(list, mustParse(t, text))
	}
	dice := rand.New(rand.NewSource(2))
	for others > 0 {
		if p := diceProg(dice); slowValid(p) {
			list = append(list, p)
			others--
		}
	}
	return list
}

// diceProg makes blocks, letters and edges up, valid or not.
func diceProg(dice *rand.Rand) impl.Prog {
	var p impl.Prog
	n := 2 + dice.Intn(8)
	for i, name := range dice.Perm(9)[:n] {
		ops := ""
		for range dice.Intn(7) {
			ops += "xyzXYZxx"[dice.Intn(8):][:1]
		}
		if i == 0 {
			ops = ""
		}
		p.Blocks = append(p.Blocks, impl.Block{Name: "ABCDEFGHI"[name : name+1], Ops: ops})
	}
	for range dice.Intn(15) {
		e := impl.Edge{From: p.Blocks[dice.Intn(n-1)].Name, To: p.Blocks[1+dice.Intn(n-1)].Name}
		if !slices.Contains(p.Edges, e) {
			p.Edges = append(p.Edges, e)
		}
	}
	return p
}

// slowIsRun tells by itself whether a text is a run.
func slowIsRun(p impl.Prog, run string) bool {
	n := len(run)
	if n < 2 || n > 40 || run[:1] != p.Blocks[0].Name || run[n-1:] != p.Blocks[len(p.Blocks)-1].Name {
		return false
	}
	for i := range n - 1 {
		if !slices.Contains(p.Edges, edge(run[i:i+1], run[i+1:i+2])) {
			return false
		}
	}
	return true
}

// slowWays returns all ways from a block to the exit with so many blocks, in the order of bytes.
func slowWays(p impl.Prog, from string, n int) []string {
	ways := []string{from}
	for range n - 1 {
		var longer []string
		for _, way := range ways {
			for _, e := range p.Edges {
				if strings.HasSuffix(way, e.From) {
					longer = append(longer, way+e.To)
				}
			}
		}
		ways = longer
	}
	ways = slices.DeleteFunc(ways, func(way string) bool {
		return !strings.HasSuffix(way, p.Blocks[len(p.Blocks)-1].Name)
	})
	slices.Sort(ways)
	return ways
}

// slowShortest returns the shortest way from a block to the exit, the block included, of several the first in the order of bytes.
func slowShortest(p impl.Prog, from string) string {
	for n := 1; ; n++ {
		if ways := slowWays(p, from, n); len(ways) > 0 {
			return ways[0]
		}
	}
}

// slowWalk goes as picks tell.
func slowWalk(p impl.Prog, picks []int) string {
	run := p.Blocks[0].Name
	for i := 0; i < len(picks) && len(run) < 20; i++ {
		var next []string
		for _, e := range p.Edges {
			if strings.HasSuffix(run, e.From) {
				next = append(next, e.To)
			}
		}
		if len(next) == 0 {
			return run
		}
		run += next[picks[i]%len(next)]
	}
	return run + slowShortest(p, run[len(run)-1:])[1:]
}

// byBlocks compares two runs by where in Blocks the first two blocks stand in which they differ.
func byBlocks(p impl.Prog) func(a, b string) int {
	return func(a, b string) int {
		for i := range min(len(a), len(b)) {
			for _, block := range p.Blocks {
				switch {
				case a[i] == b[i]:
				case a[i:i+1] == block.Name:
					return -1
				case b[i:i+1] == block.Name:
					return 1
				}
			}
		}
		return len(a) - len(b)
	}
}

// slowRuns returns all runs with so many blocks at most, in order, and false if they are more than 300.
func slowRuns(p impl.Prog, k int) ([]string, bool) {
	var list []string
	for n := 2; n <= k; n++ {
		list = append(list, slowWays(p, p.Blocks[0].Name, n)...)
		if len(list) > 300 {
			return nil, false
		}
	}
	slices.SortFunc(list, byBlocks(p))
	return list, true
}

// slowOps returns what the blocks of a run do.
func slowOps(p impl.Prog, run string) string {
	ops := ""
	for _, name := range strings.Split(run, "") {
		for _, b := range p.Blocks {
			if b.Name == name {
				ops += b.Ops
			}
		}
	}
	return ops
}

// slowNeeded counts the letters that compute a term and behind whose last one of it, if there is one ahead, it is spoilt.
func slowNeeded(ops, t string) int {
	n := 0
	for i := range len(ops) {
		last := strings.LastIndex(ops[:i], t)
		if ops[i:i+1] == t && (last < 0 || strings.Contains(ops[last:i], strings.ToUpper(t))) {
			n++
		}
	}
	return n
}

// sampleRuns returns some runs of a program, short and long.
func sampleRuns(p impl.Prog) []string {
	list, _ := slowRuns(p, 7)
	for _, picks := range [][]int{nil, make([]int, 40), {1, 1, 1, 1, 1, 1, 1}, {0, 1, 2, 3, 4, 5, 6, 7, 8, 9, 10, 11, 12, 13, 14, 15, 16, 17, 18, 19}} {
		list = append(list, slowWalk(p, picks))
	}
	return list
}

// checkOn holds what a run computes against the slow answers.
func checkOn(t *testing.T, p impl.Prog, run string) {
	t.Helper()
	want := slowOps(p, run)
	if ops, ok := impl.OpsOn(p, run); ops != want || !ok || !impl.IsRun(p, run) {
		t.Fatalf("OpsOn(%q, %q) = %q, %v", impl.FormatProg(p), run, ops, ok)
	}
	for _, term := range []string{"x", "y", "z"} {
		count, needed := strings.Count(want, term), slowNeeded(want, term)
		a, b, c := impl.CountOn(p, run, term), impl.NeededOn(p, run, term), impl.SpareOn(p, run, term)
		if a != count || b != needed || c != count-needed {
			t.Fatalf("%q, %q, %q: %d, %d and %d", impl.FormatProg(p), run, term, a, b, c)
		}
	}
}

func TestRunLimitValues(t *testing.T) {
	if impl.MaxRun != 40 || impl.MaxRuns != 300 {
		t.Errorf("limits are %d and %d", impl.MaxRun, impl.MaxRuns)
	}
}

func TestRunExample(t *testing.T) {
	p := mustParse(t, example)
	if ops, ok := impl.OpsOn(p, "ABDE"); ops != "xx" || !ok {
		t.Errorf("OpsOn = %q, %v", ops, ok)
	}
	if a, b, c := impl.CountOn(p, "ABDE", "x"), impl.NeededOn(p, "ABDE", "x"), impl.SpareOn(p, "ABDE", "x"); a != 2 || b != 1 || c != 1 {
		t.Errorf("ABDE computes x %d times, needs %d and spares %d", a, b, c)
	}
	if list, ok := impl.RunsUpTo(p, 12); !slices.Equal(list, []string{"ABDE", "ACDE"}) || !ok {
		t.Errorf("RunsUpTo = %q, %v", list, ok)
	}
}

// TestIsRun holds all texts of a few of a program's names against slowIsRun.
func TestIsRun(t *testing.T) {
	for _, text := range []string{example, loopText, selfText, orderText, "A,B:AB", "I,A:IA", "C,By,AzZ:CB,BA,CA"} {
		p := mustParse(t, text)
		texts := []string{""}
		for i := 0; i < len(texts); i++ {
			run := texts[i]
			if impl.IsRun(p, run) != slowIsRun(p, run) {
				t.Fatalf("IsRun(%q, %q) = %v", text, run, impl.IsRun(p, run))
			}
			for _, b := range p.Blocks {
				if len(run) < 5 {
					texts = append(texts, run+b.Name)
				}
			}
		}
	}
}

func TestRunsOfFortyBlocks(t *testing.T) {
	self, loop := mustParse(t, selfText), mustParse(t, loopText)
	forty := "A" + strings.Repeat("B", 38) + "C"
	checkOn(t, self, forty)
	checkOn(t, self, "A"+strings.Repeat("B", 37)+"C")
	checkOn(t, loop, "A"+strings.Repeat("BC", 18)+"BD")
	if ops, _ := impl.OpsOn(self, forty); ops != strings.Repeat("xXy", 38)+"z" {
		t.Errorf("OpsOn = %q", ops)
	}
	if a, b, c := impl.CountOn(self, forty, "x"), impl.NeededOn(self, forty, "x"), impl.SpareOn(self, forty, "x"); a != 38 || b != 38 || c != 0 {
		t.Errorf("x: %d, %d, %d", a, b, c)
	}
	if a, b, c := impl.CountOn(self, forty, "y"), impl.NeededOn(self, forty, "y"), impl.SpareOn(self, forty, "y"); a != 38 || b != 1 || c != 37 {
		t.Errorf("y: %d, %d, %d", a, b, c)
	}
	full := mustParse(t, strings.Replace(selfText, "BxXy", "Bxxxxxx", 1))
	if a, b := impl.CountOn(full, forty, "x"), impl.NeededOn(full, forty, "x"); a != 228 || b != 1 {
		t.Errorf("x: %d, %d", a, b)
	}
	for _, run := range []string{"A" + strings.Repeat("B", 39) + "C", "A" + strings.Repeat("B", 1000000) + "C"} {
		notRun(t, self, run)
	}
	notRun(t, loop, "A"+strings.Repeat("BC", 19)+"BD")
}

// notRun holds the answers for a text that is no run, and for a program that is not valid.
func notRun(t *testing.T, p impl.Prog, run string) {
	t.Helper()
	ops, ok := impl.OpsOn(p, run)
	if impl.IsRun(p, run) || ops != "" || ok {
		t.Errorf("%.40q is a run, which does %q, %v", run, ops, ok)
	}
	for _, term := range []string{"x", "y", "z"} {
		if a, b, c := impl.CountOn(p, run, term), impl.NeededOn(p, run, term), impl.SpareOn(p, run, term); a != -1 || b != -1 || c != -1 {
			t.Errorf("%.40q, %q: %d, %d, %d", run, term, a, b, c)
		}
	}
}

func TestTextsThatAreNoRun(t *testing.T) {
	p := mustParse(t, example)
	for _, run := range []string{
		"", "A", "E", "AE", "AB", "ABD", "BDE", "DE", "CDE", "ABE", "ACE", "ADE", "ABCDE", "AABDE", "ABDEE", "ABDEABDE", "ABBDE", "EDBA",
		"abde", "ABDE ", " ABDE", "AB,BD,DE", "A B D E", "AFDE", "ABDF", "AJDE", "ABD\x00", "\x00BDE", "ABDE\n", "ABD\xff", "AßDE", "A-E", "-",
	} {
		notRun(t, p, run)
	}
}

func TestWordsThatAreNoTermOnRuns(t *testing.T) {
	p := mustParse(t, example)
	for _, word := range []string{"", "X", "Y", "Z", "w", "{", "xx", "xy", "x ", " x", "A", "\x00", "é", strings.Repeat("x", 1000)} {
		if a, b, c := impl.CountOn(p, "ABDE", word), impl.NeededOn(p, "ABDE", word), impl.SpareOn(p, "ABDE", word); a != -1 || b != -1 || c != -1 {
			t.Errorf("%.40q: %d, %d, %d", word, a, b, c)
		}
	}
}

func TestRunsOfProgsThatAreNotValid(t *testing.T) {
	for what, p := range badProgs() {
		for _, run := range []string{"", "A", "AB", "AC", "ABC", "ABBC", "ABCDEFGHIJ"} {
			notRun(t, p, run)
		}
		a, one := impl.WalkRun(p, nil)
		b, two := impl.WalkRun(p, []int{0, 0})
		c, three := impl.ShortestRun(p)
		if a != "" || b != "" || c != "" || one || two || three {
			t.Errorf("%s: %q %v, %q %v, %q %v", what, a, one, b, two, c, three)
		}
		for k := range 13 {
			if list, ok := impl.RunsUpTo(p, k); len(list) != 0 || ok {
				t.Errorf("%s: RunsUpTo(%d) = %q, %v", what, k, list, ok)
			}
		}
	}
}

func TestWhatRunsCompute(t *testing.T) {
	for _, p := range someProgs(t, 60) {
		for _, run := range sampleRuns(p) {
			checkOn(t, p, run)
		}
	}
}

// TestSpoiltAndComputed has blocks that spoil and compute the same term, in all orders of a few letters.
func TestSpoiltAndComputed(t *testing.T) {
	words := []string{""}
	for i := 0; i < len(words); i++ {
		if len(words[i]) < 4 {
			words = append(words, words[i]+"x", words[i]+"X", words[i]+"y")
		}
	}
	for _, word := range words {
		checkOn(t, mustParse(t, "A,B"+word+",C:AB,BB,BC"), "ABBBC")
		checkOn(t, mustParse(t, "A,Bx,C"+word+",Dx:AB,BC,CD,AC"), "ABCD")
		checkOn(t, mustParse(t, "A,BX,C"+word+",Dx:AB,BC,CD,CB"), "ABCBCD")
	}
	for _, c := range []struct {
		ops           string
		count, needed int
	}{{"x", 1, 1}, {"xx", 2, 1}, {"xX", 1, 1}, {"Xx", 1, 1}, {"xXx", 2, 2}, {"xxXx", 3, 2}, {"xYx", 2, 1}, {"xXyx", 2, 2}, {"XXX", 0, 0}, {"", 0, 0}} {
		p := mustParse(t, "A,B"+c.ops+",C:AB,BC")
		if a, b := impl.CountOn(p, "ABC", "x"), impl.NeededOn(p, "ABC", "x"); a != c.count || b != c.needed {
			t.Errorf("%q: %d, %d", c.ops, a, b)
		}
	}
}

func TestWalkRun(t *testing.T) {
	dice := rand.New(rand.NewSource(3))
	for _, p := range someProgs(t, 60) {
		for n := range 41 {
			picks := make([]int, n)
			for i := range picks {
				picks[i] = dice.Intn(12)
			}
			if run, ok := impl.WalkRun(p, picks); run != slowWalk(p, picks) || !ok {
				t.Fatalf("WalkRun(%q, %v) = %q, %v", impl.FormatProg(p), picks, run, ok)
			}
		}
	}
}

func TestWalksOfTwentyBlocks(t *testing.T) {
	// From B one comes to C only by another pick than 0, and from C by a longer way to the exit.
	p := mustParse(t, "A,B,C,D,E:AB,BB,BC,BD,CD,CC,DE")
	zeros := func(n int, last ...int) []int { return append(make([]int, n), last...) }
	for _, c := range []struct {
		what  string
		picks []int
		want  string
	}{
		{"no picks", nil, "ABDE"},
		{"19 blocks, one more pick is taken", zeros(18, 1), "A" + strings.Repeat("B", 18) + "CDE"},
		{"20 blocks, no more pick is taken", zeros(19, 1), "A" + strings.Repeat("B", 19) + "DE"},
		{"20 blocks and the last picks", zeros(39, 1), "A" + strings.Repeat("B", 19) + "DE"},
		{"18 picks", zeros(18), "A" + strings.Repeat("B", 18) + "DE"},
		{"19 picks", zeros(19), "A" + strings.Repeat("B", 19) + "DE"},
		{"40 picks", zeros(40), "A" + strings.Repeat("B", 19) + "DE"},
		{"great picks", []int{math.MaxInt, math.MaxInt - 1, 2000000002}, "ABBCDE"},
		{"picks behind the exit", []int{0, 2, 0, 7, 7, 7}, "ABDE"},
	} {
		if run, ok := impl.WalkRun(p, c.picks); run != c.want || !ok {
			t.Errorf("%s: %q, %v", c.what, run, ok)
		}
	}
	// The shortest way from the twentieth block is as long as it can be.
	far := mustParse(t, "A,B,C,D,E,F,G,H,I:AB,BB,BC,CD,DE,EF,FG,GH,HI")
	if run, ok := impl.WalkRun(far, make([]int, 40)); run != "A"+strings.Repeat("B", 19)+"CDEFGHI" || !ok {
		t.Errorf("WalkRun = %q, %v", run, ok)
	}
}

func TestPicksThatAreNone(t *testing.T) {
	for _, text := range []string{example, selfText, "A,B:AB"} {
		p := mustParse(t, text)
		late := make([]int, 40)
		late[39] = -1
		for _, picks := range [][]int{
			{-1}, {0, -1}, {0, 0, 0, 0, 0, 0, -1}, late, {math.MinInt}, {0, 0, 0, 0, 0, 0, 0, 0, -5, 0},
			make([]int, 41), make([]int, 42), make([]int, 100000), append(make([]int, 40), -1),
		} {
			if run, ok := impl.WalkRun(p, picks); run != "" || ok {
				t.Errorf("WalkRun(%q, %d picks) = %q, %v", text, len(picks), run, ok)
			}
		}
		if run, ok := impl.WalkRun(p, make([]int, 40)); !slowIsRun(p, run) || !ok {
			t.Errorf("WalkRun(%q, 40 picks) = %q, %v", text, run, ok)
		}
	}
}

// TestShortestRun calls often, since an order that a map makes up differs from call to call.
func TestShortestRun(t *testing.T) {
	for _, c := range []struct{ text, want string }{
		{example, "ABDE"},
		{"A,C,B,D:AC,AB,CD,BD", "ABD"}, // neither the first block nor the first edge
		{"A,B,C,D:AB,BC,CD,AC", "ACD"}, // fewer blocks are ahead of the order of bytes
		{"I,D,C,B,A:ID,IC,IB,DA,CA,BA", "IBA"},
		{crossText, "ABEG"},
		{"A,B,C,E,D,F,G:AB,AC,BE,CD,EF,DF,FG,BD", "ABDFG"},
		{"A,B,C,D,E,F,G:AB,BC,CD,DE,EG,AF,FF,FD", "AFDEG"}, // B would be first, but leads around
		{"A,B:AB", "AB"},
		{"A,B,C,D,E,F,G,H,I:AB,BC,CD,DE,EF,FG,GH,HI", "ABCDEFGHI"},
	} {
		p := mustParse(t, c.text)
		for range 50 {
			if run, ok := impl.ShortestRun(p); run != c.want || !ok {
				t.Fatalf("ShortestRun(%q) = %q, %v", c.text, run, ok)
			}
		}
	}
	for _, p := range someProgs(t, 200) {
		if run, ok := impl.ShortestRun(p); run != slowShortest(p, p.Blocks[0].Name) || !ok {
			t.Fatalf("ShortestRun(%q) = %q, %v", impl.FormatProg(p), run, ok)
		}
	}
}

func TestRunsUpTo(t *testing.T) {
	refused := 0
	for _, p := range someProgs(t, 60) {
		for k := range 13 {
			want, wantOK := slowRuns(p, k)
			got, ok := impl.RunsUpTo(p, k)
			if ok != wantOK || !slices.Equal(got, want) {
				t.Fatalf("RunsUpTo(%q, %d) = %q, %v", impl.FormatProg(p), k, got, ok)
			}
			if !ok {
				refused++
			}
		}
	}
	if refused == 0 {
		t.Error("no program has too many runs")
	}
}

// TestRunsInTheOrderOfBlocks has blocks, edges and names in three orders.
func TestRunsInTheOrderOfBlocks(t *testing.T) {
	p := mustParse(t, "A,D,C,B,E:AB,AC,AD,BE,CE,DE,BC,CD,CC")
	for range 50 {
		list, ok := impl.RunsUpTo(p, 5)
		if got := strings.Join(list, " "); got != "ADE ACDE ACCDE ACCCE ACCE ACE ABCDE ABCCE ABCE ABE" || !ok {
			t.Fatalf("RunsUpTo = %q, %v", got, ok)
		}
	}
}

func TestRunsUpToLimits(t *testing.T) {
	for text, wants := range map[string]map[int]int{
		"A,B,C,D,E,F:BC,DE,ED,AB,CD,AD,DD,BB,EF,BD":             {12: 300},
		"A,B,C,D,E:BC,CD,DE,CC,DD,AB,BE,CB,AC":                  {11: 300, 12: -1},
		"A,B,C,D,E,F:CE,AE,BF,CF,DE,EB,BC,EF,EE,BD":             {12: 299},
		"A,B,C,D,E,F:BD,BB,CE,AC,EE,AF,BF,DF,DB,EB,CD":          {12: -1}, // 301 runs
		"A,B,C,D,E,F:CB,DE,BD,DD,AE,BE,EE,ED,EF,CC,AB,AC,DF,EB": {8: -1, 9: -1, 12: -1},
		manyText: {0: 0, 1: 0, 2: 0, 3: 2, 11: -1, 12: -1},
		"A,B:AB": {0: 0, 1: 0, 2: 1, 12: 1},
		selfText: {2: 0, 3: 1, 4: 2, 11: 9, 12: 10},
		"A,B,C,D,E,F,G,H,I:AB,BC,CD,DE,EF,FG,GH,HI": {8: 0, 9: 1, 12: 1},
	} {
		p := mustParse(t, text)
		for k, want := range wants {
			list, ok := impl.RunsUpTo(p, k)
			if want < 0 && (len(list) != 0 || ok) || want >= 0 && (len(list) != want || !ok) {
				t.Errorf("RunsUpTo(%q, %d) has %d runs, %v", text, k, len(list), ok)
			}
		}
		for _, k := range []int{-1, -2, -12, 13, 14, 40, math.MaxInt, math.MinInt} {
			if list, ok := impl.RunsUpTo(p, k); len(list) != 0 || ok {
				t.Errorf("RunsUpTo(%q, %d) = %q, %v", text, k, list, ok)
			}
		}
	}
}

func TestRunArgumentsStay(t *testing.T) {
	progs := []impl.Prog{mustParse(t, example), mustParse(t, loopText), mustParse(t, manyText), build(chain("ABC"), "AB", "BC", "BA")}
	for _, prog := range progs {
		p, whole := withSpare(prog)
		before := copyOf(whole)
		wholePicks := []int{3, 1, 4, 1, 5, 9, -7, -7}
		impl.IsRun(p, "ABDE")
		impl.WalkRun(p, wholePicks[:6])
		impl.WalkRun(p, wholePicks)
		impl.ShortestRun(p)
		for k := range 14 {
			impl.RunsUpTo(p, k)
		}
		for _, run := range []string{"ABDE", "ABD", "ABCBD", "ABE", "ACCE"} {
			impl.OpsOn(p, run)
			impl.CountOn(p, run, "x")
			impl.NeededOn(p, run, "x")
			impl.SpareOn(p, run, "x")
		}
		if !reflect.DeepEqual(whole, before) || !slices.Equal(wholePicks, []int{3, 1, 4, 1, 5, 9, -7, -7}) {
			t.Errorf("%v became %v, or picks became %v", before, whole, wholePicks)
		}
	}
}

func TestRunResultsShareNothing(t *testing.T) {
	p := mustParse(t, loopText)
	first, _ := impl.RunsUpTo(p, 12)
	second, _ := impl.RunsUpTo(p, 12)
	kept := slices.Clone(second)
	for i := range first[:cap(first)] {
		first[:cap(first)][i] = "overwritten"
	}
	if !slices.Equal(second, kept) || len(kept) == 0 {
		t.Errorf("two lists of runs share memory")
	}
	if again, ok := impl.RunsUpTo(p, 12); !slices.Equal(again, kept) || !ok {
		t.Errorf("RunsUpTo = %q, %v", again, ok)
	}
	overwrite(p)
	if !slices.Equal(second, kept) {
		t.Errorf("a list of runs keeps its argument's memory")
	}
}
