package tests

import (
	"fmt"
	"math"
	"math/rand"
	"reflect"
	"slices"
	"strings"
	"testing"

	"loop.example/onceways/impl"
)

// onceText is a program whose loop computes a term that nothing spoils.
const onceText = "A,B,Cx,D:AB,BC,CC,CD"

// placeTexts are texts of programs in which places are tried out.
var placeTexts = []string{
	example,
	onceText,
	"A,B:AB",
	"A,Bx:AB",
	"A,Bx,C,DX,E:AB,BC,CD,DC,DE",
	"A,B,CxX,D,Ex:AB,BC,CB,BD,DE,CE",
	"I,Dx,Gx,Bx,Ax,CX,H:ID,DG,GB,BA,AC,CH,IA,IB",
	"A,BxX,CXx,DxXx,ExX,Fx:AB,BC,CD,DE,EF,BD,CE,EB,DB",
}

// notRuns are texts that are no run of the example.
var notRuns = []string{
	"", "A", "E", "AE", "AB", "ABD", "BDE", "CDE", "ABE", "ACDEE", "AABDE", "ABDEABDE", "abde", "ABDE ", " ABDE", "A,B,D,E", "AFDE", "ABD\xff", "-", strings.Repeat("ABDE", 100000),
}

// namesOf returns the names of all blocks.
func namesOf(p impl.Prog) string {
	text := ""
	for _, b := range p.Blocks {
		text += b.Name
	}
	return text
}

// firstIn returns the names of the blocks that compute a term first.
func firstIn(p impl.Prog, term string) string {
	text := ""
	for _, b := range p.Blocks {
		if wantedAhead(b.Ops, term) {
			text += b.Name
		}
	}
	return text
}

// indicesOf returns the indices of the bits that a number has.
func indicesOf(set int) []int {
	var list []int
	for i := range 14 {
		if set>>i&1 == 1 {
			list = append(list, i)
		}
	}
	return list
}

// lettersOf returns the letters of a text at these indices.
func lettersOf(text string, set int) string {
	part := ""
	for _, i := range indicesOf(set) {
		part += text[i : i+1]
	}
	return part
}

// isPut tells whether a place puts a term between two blocks that follow on each other.
func isPut(p impl.Prog, q impl.Place, from, to string) bool {
	return slices.ContainsFunc(q.Puts, func(i int) bool { return p.Edges[i] == edge(from, to) })
}

// slowInOrder tells whether a text is made of some letters of another one, in its order.
func slowInOrder(text, all string) bool {
	for set := range 1 << len(all) {
		if text == lettersOf(all, set) {
			return true
		}
	}
	return false
}

// slowPuts tells whether numbers are indices of edges in ascending order.
func slowPuts(p impl.Prog, puts []int) bool {
	for set := range 1 << len(p.Edges) {
		if slices.Equal(puts, indicesOf(set)) {
			return true
		}
	}
	return false
}

// slowThere returns the blocks at whose beginning a term is there with a place, by following all comings.
func slowThere(p impl.Prog, term string, q impl.Place) string {
	list := []coming{{p.Blocks[0].Name, false}}
	for i := 0; i < len(list); i++ {
		text := slowOps(p, list[i].name)
		if list[i].there {
			text = term + text
		}
		for _, to := range nextOf(p, list[i].name) {
			next := coming{to, thereBehind(text, term) || isPut(p, q, list[i].name, to)}
			if !slices.Contains(list, next) {
				list = append(list, next)
			}
		}
	}
	there := ""
	for _, b := range p.Blocks {
		if !slices.Contains(list, coming{b.Name, false}) {
			there += b.Name
		}
	}
	return there
}

// slowWantedPlace tells whether a term is wanted behind each edge on which it is put.
func slowWantedPlace(p impl.Prog, term string, q impl.Place) bool {
	for _, i := range q.Puts {
		if !slowWanted(p, term, []string{p.Edges[i].To}) {
			return false
		}
	}
	return true
}

// goneThrough goes through a run with a place, where blocks are tidy and what is dropped is left out. It returns what the
// run does, and the blocks where what is dropped is not there.
func goneThrough(p impl.Prog, term string, q impl.Place, run string) (string, string) {
	done, missing := "", ""
	for i := range run {
		if i > 0 && isPut(p, q, run[i-1:i], run[i:i+1]) {
			done += term
		}
		ops := slowTidy(slowOps(p, run[i:i+1]))
		if strings.Contains(q.Drops, run[i:i+1]) {
			if !thereBehind(done, term) {
				missing += run[i : i+1]
			}
			ops = strings.Replace(ops, term, "", 1)
		}
		done += ops
	}
	return done, missing
}

// checkPlace holds all that the chapter's functions tell of a place that is shaped against slow answers.
func checkPlace(t *testing.T, p impl.Prog, term string, q impl.Place) {
	t.Helper()
	text := impl.FormatProg(p)
	there := slowThere(p, term, q)
	valid := !slices.ContainsFunc([]byte(q.Drops), func(b byte) bool { return strings.IndexByte(there, b) < 0 })
	if !impl.PlaceShaped(p, term, q) || impl.PlaceValid(p, term, q) != valid || impl.IsWanted(p, term, q) != slowWantedPlace(p, term, q) {
		t.Fatalf("%v of %q for %q is shaped %v, valid %v, wanted %v", q, text, term, impl.PlaceShaped(p, term, q), impl.PlaceValid(p, term, q), impl.IsWanted(p, term, q))
	}
	for _, b := range p.Blocks {
		if got := impl.ThereWith(p, term, q, b.Name); got != strings.Contains(there, b.Name) {
			t.Fatalf("%q of %q with %v: there is %v at %q", term, text, q, got, b.Name)
		}
	}
	drops := ""
	for _, name := range strings.Split(firstIn(p, term), "") {
		if strings.Contains(there, name) {
			drops += name
		}
	}
	if most, ok := impl.DropMost(p, term, q.Puts); !slices.Equal(most.Puts, q.Puts) || most.Drops != drops || !ok || !impl.PlaceValid(p, term, most) {
		t.Fatalf("DropMost(%q, %q, %v) = %v, %v", text, term, q.Puts, most, ok)
	}
	checkPlaceText(t, p, q)
}

// checkPlaceText holds the text of a place against a slow one, and its place against the place.
func checkPlaceText(t *testing.T, p impl.Prog, q impl.Place) {
	t.Helper()
	want := slowPlaceText(p, q)
	if got := impl.FormatPlace(p, q); got != want {
		t.Fatalf("FormatPlace(%q, %v) = %q", impl.FormatProg(p), q, got)
	}
	if got, ok := impl.ParsePlace(p, want); !slices.Equal(got.Puts, q.Puts) || got.Drops != q.Drops || !ok {
		t.Fatalf("ParsePlace(%q, %q) = %v, %v", impl.FormatProg(p), want, got, ok)
	}
}

// slowPlaceText writes a place.
func slowPlaceText(p impl.Prog, q impl.Place) string {
	var edges []string
	for _, i := range q.Puts {
		edges = append(edges, p.Edges[i].From+p.Edges[i].To)
	}
	head := strings.Join(edges, ",")
	if head == "" {
		head = "-"
	}
	if q.Drops == "" {
		return head + "/-"
	}
	return head + "/" + q.Drops
}

// checkPlaceOn holds a run with a place against one that is gone through, and returns where what is dropped is missing.
func checkPlaceOn(t *testing.T, p impl.Prog, term string, q impl.Place, run string) string {
	t.Helper()
	done, missing := goneThrough(p, term, q, run)
	if got := impl.CountWith(p, term, q, run); got != strings.Count(done, term) {
		t.Fatalf("CountWith(%q, %q, %v, %q) = %d, but it does %q", impl.FormatProg(p), term, q, run, got, done)
	}
	if missing != "" && impl.PlaceValid(p, term, q) {
		t.Fatalf("%v is valid for %q of %q, but on %q it is not there at %q", q, term, impl.FormatProg(p), run, missing)
	}
	return missing
}

// dicePlace makes up a place that is shaped.
func dicePlace(dice *rand.Rand, p impl.Prog, term string) impl.Place {
	puts := dice.Intn(1 << len(p.Edges))
	for range dice.Intn(3) {
		puts &= dice.Intn(1 << len(p.Edges))
	}
	first := firstIn(p, term)
	return impl.Place{Puts: indicesOf(puts), Drops: lettersOf(first, dice.Intn(1<<len(first)))}
}

// mustPlace returns the place of a text.
func mustPlace(t *testing.T, p impl.Prog, text string) impl.Place {
	t.Helper()
	q, ok := impl.ParsePlace(p, text)
	if !ok {
		t.Fatalf("ParsePlace(%q, %q) finds no place", impl.FormatProg(p), text)
	}
	return q
}

// brief writes the beginning of a value, which may be a long one.
func brief(value any) string { return fmt.Sprintf("%.60s", fmt.Sprint(value)) }

func isNoPlace(q impl.Place) bool { return len(q.Puts) == 0 && q.Drops == "" }

func TestPlaceExample(t *testing.T) {
	p := mustParse(t, example)
	q, ok := impl.ParsePlace(p, "CD/D")
	if !ok || !slices.Equal(q.Puts, []int{3}) || q.Drops != "D" || impl.FormatPlace(p, q) != "CD/D" {
		t.Fatalf("ParsePlace = %v, %v", q, ok)
	}
	if !impl.PlaceShaped(p, "x", q) || !impl.PlaceValid(p, "x", q) || !impl.IsWanted(p, "x", q) {
		t.Errorf("CD/D is shaped %v, valid %v, wanted %v", impl.PlaceShaped(p, "x", q), impl.PlaceValid(p, "x", q), impl.IsWanted(p, "x", q))
	}
	if a, b := impl.CountWith(p, "x", q, "ABDE"), impl.CountWith(p, "x", q, "ACDE"); a != 1 || b != 1 {
		t.Errorf("x is computed %d times on ABDE and %d times on ACDE", a, b)
	}
	for name, want := range map[string]bool{"A": false, "B": false, "C": false, "D": true, "E": true} {
		if got := impl.ThereWith(p, "x", q, name); got != want {
			t.Errorf("x is there %v at %q", got, name)
		}
	}
	if most, ok := impl.DropMost(p, "x", []int{3}); !slices.Equal(most.Puts, []int{3}) || most.Drops != "D" || !ok {
		t.Errorf("DropMost = %v, %v", most, ok)
	}
}

// TestPlacesWrittenOut has the answers for x written out, counts being told for some runs.
func TestPlacesWrittenOut(t *testing.T) {
	for _, c := range []struct {
		prog, place   string
		valid, wanted bool
		there, most   string
		counts        map[string]int
	}{
		// Several ways to a block.
		{example, "-/-", true, true, "E", "", map[string]int{"ABDE": 2, "ACDE": 1}},
		{example, "-/D", false, true, "E", "", map[string]int{"ABDE": 1, "ACDE": 0}},
		{example, "-/B", false, true, "E", "", map[string]int{"ABDE": 1, "ACDE": 1}},
		{example, "-/BD", false, true, "E", "", map[string]int{"ABDE": 0, "ACDE": 0}},
		{example, "CD/-", true, true, "DE", "D", map[string]int{"ABDE": 2, "ACDE": 2}},
		{example, "BD/D", false, true, "E", "", map[string]int{"ABDE": 2, "ACDE": 0}}, // on one way alone
		{example, "BD,CD/D", true, true, "DE", "D", map[string]int{"ABDE": 2, "ACDE": 1}},
		{example, "AC/D", true, true, "CDE", "D", map[string]int{"ABDE": 1, "ACDE": 1}},
		{example, "AC,CD/D", true, true, "CDE", "D", map[string]int{"ABDE": 1, "ACDE": 2}},
		{example, "AB/B", true, true, "BE", "B", map[string]int{"ABDE": 2, "ACDE": 1}},
		{example, "AB,AC/BD", true, true, "BCDE", "BD", map[string]int{"ABDE": 1, "ACDE": 1}},
		{example, "AB,CD/BD", true, true, "BDE", "BD", map[string]int{"ABDE": 1, "ACDE": 1}},
		{example, "DE/-", true, false, "E", "", map[string]int{"ABDE": 3, "ACDE": 2}}, // nothing is wanted there
		{example, "DE/D", false, false, "E", "", map[string]int{"ABDE": 2, "ACDE": 1}},
		{example, "AB,AC,BD,CD,DE/BD", true, false, "BCDE", "BD", map[string]int{"ABDE": 3, "ACDE": 3}},
		// Programs of two blocks.
		{"A,B:AB", "-/-", true, true, "", "", map[string]int{"AB": 0}},
		{"A,B:AB", "AB/-", true, false, "B", "", map[string]int{"AB": 1}},
		{"A,Bx:AB", "AB/B", true, true, "B", "B", map[string]int{"AB": 1}},
		{"A,Bx:AB", "-/B", false, true, "", "", map[string]int{"AB": 0}},
		{"A,BX:AB", "AB/-", true, false, "B", "", map[string]int{"AB": 1}},
		// Put in loops, and ahead of them.
		{onceText, "-/-", true, true, "D", "", map[string]int{"ABCD": 1, "ABCCCD": 3}},
		{onceText, "AB/C", true, true, "BCD", "C", map[string]int{"ABCD": 1, "ABCCCD": 1}},
		{onceText, "BC/C", true, true, "CD", "C", map[string]int{"ABCD": 1, "ABCCCD": 1}},
		{onceText, "CC/C", false, true, "D", "", map[string]int{"ABCD": 0, "ABCCCD": 2}},
		{onceText, "BC,CC/C", true, true, "CD", "C", map[string]int{"ABCD": 1, "ABCCCD": 3}},
		{onceText, "AB,BC,CC,CD/C", true, false, "BCD", "C", map[string]int{"ABCD": 3, "ABCCCD": 5}},
		{"A,B,Cx,D:AB,BC,BD,CB", "AB/C", true, false, "BCD", "C", map[string]int{"ABD": 1, "ABCBCBD": 1}}, // not wanted, for one may not go around
		{"A,B,Cx,D:AB,BC,BD,CB", "BC/C", true, true, "C", "C", map[string]int{"ABD": 0, "ABCBCBD": 2}},
		{"A,B,Cx,D:AB,BC,BD,CB", "-/C", false, true, "", "", map[string]int{"ABD": 0, "ABCBCBD": 0}},
		{"A,B,CxX,D:AB,BC,BD,CB", "AB/C", false, false, "", "", map[string]int{"ABD": 1, "ABCBCBD": 1}},
		{"A,B,CxX,D:AB,BC,BD,CB", "AB,CB/C", true, false, "BCD", "C", map[string]int{"ABD": 1, "ABCBCBD": 3}},
		{"A,B,CxX,D:AB,BC,BD,CB", "BC/C", true, true, "C", "C", map[string]int{"ABD": 0, "ABCBCBD": 2}},
		// Drops of two blocks of a loop, which do not prove each other.
		{"A,B,Cx,Dx,E:AB,BC,CD,DC,DE", "-/CD", false, true, "DE", "D", map[string]int{"ABCDE": 0, "ABCDCDE": 0}},
		{"A,B,Cx,Dx,E:AB,BC,CD,DC,DE", "BC/CD", true, true, "CDE", "CD", map[string]int{"ABCDE": 1, "ABCDCDE": 1}},
		{"A,Bx,Cx,D:AB,BC,CC,CD", "-/C", true, true, "CD", "C", map[string]int{"ABCD": 1, "ABCCCD": 1}},
		{"A,Bx,Cx,D:AB,AC,BC,CC,CD", "AC/C", true, true, "CD", "C", map[string]int{"ABCD": 1, "ACD": 1, "ACCCD": 1}},
		// Put, and spoilt behind.
		{"A,BX,Cx,D:AB,BC,CD", "AB/C", false, false, "BD", "", map[string]int{"ABCD": 1}},
		{"A,BX,Cx,D:AB,BC,CD", "AB,BC/C", true, false, "BCD", "C", map[string]int{"ABCD": 2}},
		{"A,BxX,Cx,D:AB,BC,CD", "AB/BC", false, true, "BD", "B", map[string]int{"ABCD": 1}},
		{"A,BxX,Cx,D:AB,BC,CD", "AB/B", true, true, "BD", "B", map[string]int{"ABCD": 2}},
		{"A,BxX,Cx,D:AB,BC,CD", "AB,BC/BC", true, true, "BCD", "BC", map[string]int{"ABCD": 2}},
		{"A,BXx,Cx,D:AB,BC,CD", "AB/C", true, false, "BCD", "C", map[string]int{"ABCD": 2}},
		{"A,B,CX,Dx,E:AB,BC,BD,CD,DE", "AB/D", false, false, "BCE", "", map[string]int{"ABDE": 1, "ABCDE": 1}},
		{"A,B,CX,Dx,E:AB,BC,BD,CD,DE", "AB,CD/D", true, false, "BCDE", "D", map[string]int{"ABDE": 1, "ABCDE": 2}},
		// Blocks that compute the term twice, or again in a row.
		{"A,BxXx,C:AB,BC", "-/-", true, true, "C", "", map[string]int{"ABC": 2}},
		{"A,BxXx,C:AB,BC", "AB/B", true, true, "BC", "B", map[string]int{"ABC": 2}},
		{"A,BxXx,C:AB,BC", "-/B", false, true, "C", "", map[string]int{"ABC": 1}},
		{"A,BxxXxx,C:AB,BB,BC", "-/-", true, true, "C", "", map[string]int{"ABC": 2, "ABBBC": 6}},
		{"A,BxxXxx,C:AB,BB,BC", "AB/B", true, true, "BC", "B", map[string]int{"ABC": 2, "ABBBC": 4}},
		{"A,BxXxXx,C:AB,BB,BC", "AB/B", true, true, "BC", "B", map[string]int{"ABC": 3, "ABBBC": 7}},
		{"A,BxXxX,C:AB,BB,BC", "AB/B", false, true, "", "", map[string]int{"ABC": 2, "ABBBC": 4}},
		{"A,BxXxX,C:AB,BB,BC", "AB,BB/B", true, true, "B", "B", map[string]int{"ABC": 2, "ABBBC": 6}},
		// What is done to other terms does not matter.
		{"A,BYx,CyY,DxZ,E:AB,AC,BD,CD,DE", "CD/D", true, true, "DE", "D", map[string]int{"ABDE": 1, "ACDE": 1}},
	} {
		p := mustParse(t, c.prog)
		q := mustPlace(t, p, c.place)
		there := ""
		for _, b := range p.Blocks {
			if impl.ThereWith(p, "x", q, b.Name) {
				there += b.Name
			}
		}
		if !impl.PlaceShaped(p, "x", q) || impl.PlaceValid(p, "x", q) != c.valid || impl.IsWanted(p, "x", q) != c.wanted || there != c.there {
			t.Errorf("%q of %q is valid %v, wanted %v, and x is there at %q", c.place, c.prog, impl.PlaceValid(p, "x", q), impl.IsWanted(p, "x", q), there)
		}
		if most, ok := impl.DropMost(p, "x", q.Puts); !slices.Equal(most.Puts, q.Puts) || most.Drops != c.most || !ok {
			t.Errorf("DropMost of %q of %q = %v, %v", c.place, c.prog, most, ok)
		}
		for run, want := range c.counts {
			if got := impl.CountWith(p, "x", q, run); got != want {
				t.Errorf("CountWith %q of %q on %q = %d", c.place, c.prog, run, got)
			}
			checkPlaceOn(t, p, "x", q, run)
		}
		checkPlace(t, p, "x", q)
	}
}

// TestAllPlaces has all places of some programs that are shaped.
func TestAllPlaces(t *testing.T) {
	for _, text := range placeTexts[:6] {
		p := mustParse(t, text)
		first, runs := firstIn(p, "x"), runsOfAll(p, 7)
		for puts := range 1 << len(p.Edges) {
			for drops := range 1 << len(first) {
				q := impl.Place{Puts: indicesOf(puts), Drops: lettersOf(first, drops)}
				checkPlace(t, p, "x", q)
				for _, run := range runs {
					checkPlaceOn(t, p, "x", q, run)
				}
			}
		}
	}
}

// TestPlacesOfAllEdges has every set of edges among a few blocks, against all runs that are long enough to tell: a place is
// valid if what is dropped is there on all of them. Each block is come to with the term there and without it within six
// blocks, and left for the exit within three.
func TestPlacesOfAllEdges(t *testing.T) {
	words := []string{"", "x", "x", "X", "xX", "Xx", "xXx", "xxXxx"}
	dice := rand.New(rand.NewSource(7))
	for _, p := range smallProgs() {
		runs := runsOfAll(p, 8)
		for range 4 {
			diceOps(dice, p, words)
			checkByRuns(t, p, dicePlace(dice, p, "x"), runs)
		}
	}
}

// runsOfAll returns all runs with so many blocks at most, however many they are.
func runsOfAll(p impl.Prog, most int) []string {
	var runs []string
	for n := 2; n <= most; n++ {
		runs = append(runs, slowWays(p, p.Blocks[0].Name, n)...)
	}
	return runs
}

// checkByRuns holds a place against all of some runs, which tell whether it is valid.
func checkByRuns(t *testing.T, p impl.Prog, q impl.Place, runs []string) {
	t.Helper()
	checkPlace(t, p, "x", q)
	missing := ""
	for _, run := range runs {
		missing += checkPlaceOn(t, p, "x", q, run)
	}
	if impl.PlaceValid(p, "x", q) != (missing == "") {
		t.Fatalf("%v of %q is valid %v, and on runs it is missing at %q", q, impl.FormatProg(p), impl.PlaceValid(p, "x", q), missing)
	}
}

// TestPlacesOfProgs has places of larger programs, and of programs that do little, so that much goes around their loops.
func TestPlacesOfProgs(t *testing.T) {
	dice := rand.New(rand.NewSource(8))
	valid, wanted := 0, 0
	for i, p := range someProgs(t, 200) {
		if i%2 == 1 {
			for k := 1; k < len(p.Blocks); k++ {
				p.Blocks[k].Ops = []string{"", "", "", "y", "x", "x", "X", "xX"}[dice.Intn(8)]
			}
		}
		runs := sampleRuns(p)
		for _, term := range []string{"x", "y", "z"} {
			for range 5 {
				q := dicePlace(dice, p, term)
				most, _ := impl.DropMost(p, term, q.Puts)
				for _, q := range []impl.Place{q, most} {
					checkPlace(t, p, term, q)
					for range 8 {
						checkPlaceOn(t, p, term, q, runs[dice.Intn(len(runs))])
					}
					if q.Drops != "" && impl.PlaceValid(p, term, q) {
						valid++
					}
					if len(q.Puts) > 0 && impl.IsWanted(p, term, q) {
						wanted++
					}
				}
			}
		}
	}
	if valid < 100 || wanted < 100 {
		t.Errorf("%d places that drop are valid, and %d that put are wanted", valid, wanted)
	}
}

// TestDropMostIsMost has all drops with some edges: the valid ones are those that are among the most.
func TestDropMostIsMost(t *testing.T) {
	for _, text := range placeTexts {
		p := mustParse(t, text)
		first := firstIn(p, "x")
		for puts := range 1 << len(p.Edges) {
			most, ok := impl.DropMost(p, "x", indicesOf(puts))
			if !ok {
				t.Fatalf("DropMost(%q, %v) is false", text, indicesOf(puts))
			}
			for drops := range 1 << len(first) {
				q := impl.Place{Puts: indicesOf(puts), Drops: lettersOf(first, drops)}
				if got := impl.PlaceValid(p, "x", q); got != (strings.Trim(q.Drops, most.Drops) == "") {
					t.Fatalf("%v of %q is valid %v, and %v the most", q, text, got, most)
				}
			}
		}
	}
}

// TestPlaceWithoutEdgesAndBlocks has the place that changes nothing.
func TestPlaceWithoutEdgesAndBlocks(t *testing.T) {
	for _, p := range someProgs(t, 30) {
		for _, q := range []impl.Place{{}, {Puts: []int{}}} {
			for _, term := range []string{"x", "y", "z"} {
				if !impl.PlaceShaped(p, term, q) || !impl.PlaceValid(p, term, q) || !impl.IsWanted(p, term, q) {
					t.Fatalf("it is not shaped, valid and wanted for %q of %q", term, impl.FormatProg(p))
				}
				for _, b := range p.Blocks {
					if got := impl.ThereWith(p, term, q, b.Name); got != impl.ThereIn(p, b.Name, term) {
						t.Fatalf("%q is there %v at %q of %q", term, got, b.Name, impl.FormatProg(p))
					}
				}
				run, _ := impl.ShortestRun(p)
				if got := impl.CountWith(p, term, q, run); got != impl.CountOnce(p, run, term) {
					t.Fatalf("CountWith(%q, %q, %q) = %d", impl.FormatProg(p), term, run, got)
				}
				most, ok := impl.DropMost(p, term, q.Puts)
				if needless, _ := impl.NeedlessIn(p, term); most.Drops != needless || len(most.Puts) != 0 || !ok {
					t.Fatalf("DropMost(%q, %q) = %v, %v", impl.FormatProg(p), term, most, ok)
				}
			}
			if got := impl.FormatPlace(p, q); got != "-/-" {
				t.Fatalf("FormatPlace = %q", got)
			}
		}
		if q, ok := impl.ParsePlace(p, "-/-"); !isNoPlace(q) || !ok {
			t.Fatalf("ParsePlace = %v, %v", q, ok)
		}
	}
}

// TestPlacesOfTheLargestProg has as many blocks and edges as there may be.
func TestPlacesOfTheLargestProg(t *testing.T) {
	p := mustParse(t, "A,Bx,Cx,Dx,Ex,Fx,Gx,Hx,Ix:AB,BC,CD,DE,EF,FG,GH,HI,BB,CC,DD,EE,FF,GG")
	all := indicesOf(1<<14 - 1)
	q := impl.Place{Puts: all, Drops: "BCDEFGHI"}
	if got := impl.FormatPlace(p, q); got != "AB,BC,CD,DE,EF,FG,GH,HI,BB,CC,DD,EE,FF,GG/BCDEFGHI" {
		t.Errorf("FormatPlace = %q", got)
	}
	checkPlace(t, p, "x", q)
	if got := impl.CountWith(p, "x", q, "ABCDEFGHI"); got != 8 {
		t.Errorf("CountWith = %d", got)
	}
	for i := range 14 {
		one := impl.Place{Puts: []int{i}}
		less := impl.Place{Puts: slices.Delete(slices.Clone(all), i, i+1), Drops: "I"}
		checkPlace(t, p, "x", one)
		checkPlace(t, p, "x", less)
		checkPlaceOn(t, p, "x", one, "ABBCCDDEEFFGGHI")
	}
	for _, puts := range [][]int{append(slices.Clone(all), 14), append(slices.Clone(all), 13), {14}, {13, 14}, make([]int, 100000)} {
		noPlace(t, p, "x", impl.Place{Puts: puts})
	}
}

// TestCountWithAgainAndAgain has runs that go along the same edges and come to the same blocks several times.
func TestCountWithAgainAndAgain(t *testing.T) {
	p := mustParse(t, "A,BxXx,C:AB,BB,BC")
	forty := "A" + strings.Repeat("B", 38) + "C"
	for text, want := range map[string]int{"-/-": 76, "-/B": 38, "AB/B": 39, "BB/-": 113, "BB/B": 75, "BC/-": 77, "AB,BB,BC/B": 77} {
		q := mustPlace(t, p, text)
		if got := impl.CountWith(p, "x", q, forty); got != want {
			t.Errorf("CountWith %q = %d", text, got)
		}
		for _, run := range []string{"A" + strings.Repeat("B", 39) + "C", "A" + strings.Repeat("B", 1000000) + "C"} {
			if got := impl.CountWith(p, "x", q, run); got != -1 {
				t.Errorf("CountWith %q of %d blocks = %d", text, len(run), got)
			}
		}
	}
	loop := mustParse(t, loopText)
	for text, want := range map[string]int{"-/C": 0, "BC/C": 3, "CB/C": 3, "AB,CB/C": 4, "BD/-": 4, "BC,CB/-": 9} {
		if got := impl.CountWith(loop, "x", mustPlace(t, loop, text), "ABCBCBCBD"); got != want {
			t.Errorf("CountWith %q = %d", text, got)
		}
	}
}

// TestPlacesInTheOrderOfBlocks has names that are in no order, and edges in another one.
func TestPlacesInTheOrderOfBlocks(t *testing.T) {
	p := mustParse(t, "I,Dx,Gx,Bx,Ax,CX,H:CH,DG,ID,AC,GB,BA,IA,IB")
	for range 30 {
		most, ok := impl.DropMost(p, "x", []int{0, 2, 6, 7})
		if got := impl.FormatPlace(p, most); got != "CH,ID,IA,IB/DGBA" || !ok {
			t.Fatalf("DropMost = %q, %v", got, ok)
		}
	}
	for text, want := range map[string]bool{
		"-/DGBA": true, "-/GBA": true, "-/DA": true, "-/IDGBACH": true, "-/ABDG": false, "-/BG": false, "-/AB": false, "-/HI": false,
		"CH,DG/-": true, "DG,CH/-": false, "IA,IB/-": true, "IB,IA/-": false, "ID,DG/-": false, "GI/-": false, "GD/-": false,
	} {
		if q, ok := impl.ParsePlace(p, text); ok != want || isNoPlace(q) == want {
			t.Errorf("ParsePlace(%q) = %v, %v", text, q, ok)
		}
	}
	for drops, want := range map[string]bool{"DGBA": true, "DB": true, "A": true, "ABDG": false, "BG": false, "DGBAC": false, "IDG": false, "DGH": false} {
		if got := impl.PlaceShaped(p, "x", impl.Place{Drops: drops}); got != want {
			t.Errorf("PlaceShaped %q is %v", drops, got)
		}
	}
}

// TestPlaceTexts has all texts of places, with all edges and all names, of blocks that compute or do not.
func TestPlaceTexts(t *testing.T) {
	for _, text := range placeTexts[:6] {
		p := mustParse(t, text)
		for puts := range 1 << len(p.Edges) {
			for drops := range 1 << len(p.Blocks) {
				checkPlaceText(t, p, impl.Place{Puts: indicesOf(puts), Drops: lettersOf(namesOf(p), drops)})
			}
		}
	}
	full := mustParse(t, fullText)
	checkPlaceText(t, full, impl.Place{Puts: indicesOf(1<<14 - 1), Drops: "ABCDEFGHI"})
}

// TestParsePlaceChangedTexts changes one byte of texts in every way: what has a place is among all texts of places.
func TestParsePlaceChangedTexts(t *testing.T) {
	for _, prog := range []string{example, "B,A,C:BA,AC,BC"} {
		p := mustParse(t, prog)
		all := map[string]impl.Place{}
		for puts := range 1 << len(p.Edges) {
			for drops := range 1 << len(p.Blocks) {
				q := impl.Place{Puts: indicesOf(puts), Drops: lettersOf(namesOf(p), drops)}
				all[slowPlaceText(p, q)] = q
			}
		}
		check := func(text string) {
			want, wantOK := all[text]
			if got, ok := impl.ParsePlace(p, text); !slices.Equal(got.Puts, want.Puts) || got.Drops != want.Drops || ok != wantOK {
				t.Fatalf("ParsePlace(%q, %q) = %v, %v", prog, text, got, ok)
			}
		}
		for text := range all {
			for i := range len(text) + 1 {
				for _, c := range "ABCDEFJa-,/: x\x00" {
					check(text[:i] + string(c) + text[i:])
					check(text[:i] + string(c) + text[min(i+1, len(text)):])
				}
				check(text[:i])
				check(text[i:])
				check(text[:i] + text[min(i+1, len(text)):])
			}
		}
	}
}

func TestParsePlaceOfNoPlace(t *testing.T) {
	p := mustParse(t, example)
	long := strings.Repeat("AB,", 100000)
	for _, text := range []string{
		"", "-", "/", "//", "--", "-/", "/-", "-//", "//-", "-/-/", "/-/-", "-/-/-", "--/-", "-/--", "-,-/-", "-,CD/-", "CD,-/-", "-/-D", "-/D-", "-CD/-", "CD-/-",
		"CD", "CD/", "CD,/-", ",CD/-", "CD,,DE/-", ",/-", "C/-", "CDE/-", "CDDE/-", "C,D/-", "AD/-", "DC/-", "XX/-", "cd/-", "CD /-", " CD/-", "CD/ D", "CD/D ", "CD/D\n",
		"CD,AB/-", "CD,CD/-", "AB,AB/-", "AB,CD,BD/-", "DE,CD/-", "-/DB", "-/BB", "-/DD", "-/BDB", "-/ABCDEA", "-/J", "-/F", "-/b", "-/B,D", "-/B D", "-/x", "-/BX",
		"CD/D/", "CD/D/D", "CD/D/-", "D/CD", "3/D", "[3]/D", "CD:D", "CD|D", "CD\\D", "-/\x00", "-/\xff", "\xff\xff/-", "é/-", "-/é", "AB,AC,BD,CD,DE,DE/-",
		long, long + "AB/-", "-/" + strings.Repeat("B", 100000), strings.Repeat("/", 100000), strings.Repeat(",", 100000) + "/-", strings.Repeat("-", 100000) + "/-",
	} {
		if q, ok := impl.ParsePlace(p, text); !isNoPlace(q) || ok {
			t.Errorf("ParsePlace(%.40q) = %s, %v", text, brief(q), ok)
		}
	}
}

// TestFormatPlaceOfAnyDrops has Drops that are no names, which are written as they are.
func TestFormatPlaceOfAnyDrops(t *testing.T) {
	p := mustParse(t, example)
	for _, drops := range []string{"-", "DB", "BB", "J", "C", "A", "/", "B/D", "B,D", " ", "x", "\x00\xff", "é", "-/-", strings.Repeat("D", 100000)} {
		for _, puts := range [][]int{nil, {}, {3}, {0, 1, 2, 3, 4}} {
			q := impl.Place{Puts: puts, Drops: drops}
			if got := impl.FormatPlace(p, q); got != slowPlaceText(p, q) {
				t.Errorf("FormatPlace(%v, %.40q) = %.40q", puts, drops, got)
			}
		}
	}
	if got := impl.FormatPlace(p, impl.Place{Puts: []int{3}, Drops: "-"}); got != "CD/-" {
		t.Errorf("FormatPlace = %q", got)
	}
}

// noPlace holds the answers for a place that is not shaped.
func noPlace(t *testing.T, p impl.Prog, term string, q impl.Place) {
	t.Helper()
	if impl.PlaceShaped(p, term, q) || impl.PlaceValid(p, term, q) || impl.IsWanted(p, term, q) {
		t.Errorf("%s for %.20q of %q is shaped %v, valid %v, wanted %v", brief(q), term, impl.FormatProg(p), impl.PlaceShaped(p, term, q), impl.PlaceValid(p, term, q), impl.IsWanted(p, term, q))
	}
	for _, b := range p.Blocks[:min(len(p.Blocks), 10)] {
		if impl.ThereWith(p, term, q, b.Name) {
			t.Errorf("%.20q is there at %q with %s", term, b.Name, brief(q))
		}
	}
	for _, run := range []string{"ABDE", "ACDE", "AB", "ABC", "ABCDEFGHI", ""} {
		if got := impl.CountWith(p, term, q, run); got != -1 {
			t.Errorf("CountWith(%.20q, %s, %q) = %d", term, brief(q), run, got)
		}
	}
}

// TestPutsThatAreNone has numbers that are no indices of edges in ascending order.
func TestPutsThatAreNone(t *testing.T) {
	p := mustParse(t, example)
	for _, puts := range [][]int{
		{-1}, {5}, {-1, 0}, {0, -1}, {4, 5}, {0, 0}, {3, 3}, {1, 0}, {4, 3}, {0, 2, 1}, {0, 1, 1}, {0, 1, 2, 3, 4, 5}, {0, 1, 2, 3, 4, 4}, {-5}, {14}, {15}, {16}, {64},
		{math.MaxInt}, {math.MinInt}, {0, math.MaxInt}, {math.MinInt, math.MaxInt}, {0, math.MinInt}, {1 << 32}, {3 + 1<<32}, {3 - 1<<32}, make([]int, 100000),
	} {
		for _, drops := range []string{"", "D", "BD"} {
			q := impl.Place{Puts: puts, Drops: drops}
			noPlace(t, p, "x", q)
			if got := impl.FormatPlace(p, q); got != "" {
				t.Errorf("FormatPlace(%s) = %.40q", brief(q), got)
			}
		}
		for _, term := range []string{"x", "y", "z", "w"} {
			if q, ok := impl.DropMost(p, term, puts); !isNoPlace(q) || ok {
				t.Errorf("DropMost(%s) = %s, %v", brief(puts), brief(q), ok)
			}
		}
	}
	for set := range 3 * 3 * 3 * 3 {
		var puts []int
		for left := set; left > 0; left /= 3 {
			puts = append(puts, left%3)
		}
		if got, want := impl.PlaceShaped(p, "x", impl.Place{Puts: puts}), slowPuts(p, puts); got != want {
			t.Errorf("PlaceShaped(%v) = %v", puts, got)
		}
	}
}

// TestDropsThatAreNone has texts that are no names, in order, of blocks that compute the term first.
func TestDropsThatAreNone(t *testing.T) {
	p := mustParse(t, "A,Bx,C,DxX,EXx,F,Gx:AB,AC,BD,CD,DE,EF,FG,DC")
	for _, drops := range []string{
		"A", "C", "E", "F", "BC", "BE", "AB", "ABD", "BDE", "GF", "J", "H", "I", "b", "x", "-", "/", "DB", "GB", "BGD", "BB", "DD", "BDD", "BBD", "BDB", "B,D", "B D",
		" B", "B ", "B-", "\x00", "\xff", "é", "Bx", "BDGBDG", strings.Repeat("B", 100000), "B" + strings.Repeat("D", 100000),
	} {
		for _, puts := range [][]int{nil, {0}, {0, 2, 3}, {0, 1, 2, 3, 4, 5, 6, 7}} {
			noPlace(t, p, "x", impl.Place{Puts: puts, Drops: drops})
		}
	}
	for _, text := range allWords("ABDG", 3) {
		if got := impl.PlaceShaped(p, "x", impl.Place{Drops: text}); got != slowInOrder(text, "BDG") {
			t.Errorf("PlaceShaped(%q) = %v", text, got)
		}
	}
	// Blocks that compute another term.
	for _, term := range []string{"y", "z"} {
		noPlace(t, p, term, impl.Place{Puts: []int{0}, Drops: "B"})
		if !impl.PlaceShaped(p, term, impl.Place{Puts: []int{0}}) {
			t.Errorf("a place without blocks is not shaped for %q", term)
		}
	}
}

func TestPlacesOfNoTerm(t *testing.T) {
	p := mustParse(t, "A,BxyzXYZ,C,Dxyz,E:AB,AC,BD,CD,DE")
	for _, term := range notTerms {
		for _, q := range []impl.Place{{}, {Puts: []int{0, 1}}, {Puts: []int{0}, Drops: "B"}, {Drops: "BD"}} {
			noPlace(t, p, term, q)
			if most, ok := impl.DropMost(p, term, q.Puts); !isNoPlace(most) || ok {
				t.Errorf("DropMost(%.40q) = %v, %v", term, most, ok)
			}
		}
	}
}

func TestThereWithOfNoBlock(t *testing.T) {
	p := mustParse(t, example)
	for _, name := range notNames {
		for _, text := range []string{"-/-", "CD/D", "AB,AC/BD", "AB,AC,BD,CD,DE/BD"} {
			if impl.ThereWith(p, "x", mustPlace(t, p, text), name) {
				t.Errorf("x is there at %.40q with %q", name, text)
			}
		}
	}
}

func TestCountWithOfNoRun(t *testing.T) {
	p := mustParse(t, example)
	for _, run := range notRuns {
		for _, text := range []string{"-/-", "CD/D", "AB,AC/BD"} {
			for _, term := range []string{"x", "y", "w"} {
				if got := impl.CountWith(p, term, mustPlace(t, p, text), run); got != -1 {
					t.Errorf("CountWith(%q, %q, %.40q) = %d", term, text, run, got)
				}
			}
		}
	}
}

func TestPlacesOfProgsThatAreNotValid(t *testing.T) {
	for what, p := range badProgs() {
		for _, q := range []impl.Place{{}, {Puts: []int{0}}, {Drops: "B"}, {Puts: []int{0, 1}, Drops: "B"}, {Puts: []int{-1}}} {
			for _, term := range []string{"x", "y", "X", ""} {
				noPlace(t, p, term, q)
				if most, ok := impl.DropMost(p, term, q.Puts); !isNoPlace(most) || ok {
					t.Errorf("%s: DropMost = %v, %v", what, most, ok)
				}
			}
			if got := impl.FormatPlace(p, q); got != "" {
				t.Errorf("%s: FormatPlace(%v) = %q", what, q, got)
			}
		}
		for _, text := range []string{"", "-/-", "AB/-", "-/B", "AB/B", "AB,BC/B", "-", "/"} {
			if q, ok := impl.ParsePlace(p, text); !isNoPlace(q) || ok {
				t.Errorf("%s: ParsePlace(%q) = %v, %v", what, text, q, ok)
			}
		}
	}
}

// TestPlacesOfOtherProgs has programs that differ in terms or in what is computed again in a block.
func TestPlacesOfOtherProgs(t *testing.T) {
	dice := rand.New(rand.NewSource(9))
	for _, p := range someProgs(t, 40) {
		tidy, _ := impl.Tidy(p)
		run, _ := impl.ShortestRun(p)
		for _, pair := range []string{"xy", "yz", "zx", "xx"} {
			one, two := pair[:1], pair[1:]
			swapped, _ := impl.SwapTerms(p, one, two)
			q := dicePlace(dice, p, one)
			want := impl.CountWith(p, one, q, run)
			if a, b := impl.CountWith(swapped, two, q, run), impl.CountWith(tidy, one, q, run); a != want || b != want || want < 0 {
				t.Fatalf("CountWith(%q, %q, %v, %q) = %d, swapped %d, tidy %d", impl.FormatProg(p), one, q, run, want, a, b)
			}
			most, _ := impl.DropMost(p, one, q.Puts)
			a, _ := impl.DropMost(swapped, two, q.Puts)
			if b, _ := impl.DropMost(tidy, one, q.Puts); a.Drops != most.Drops || b.Drops != most.Drops {
				t.Fatalf("DropMost(%q, %q, %v) = %v, swapped %v, tidy %v", impl.FormatProg(p), one, q.Puts, most, a, b)
			}
		}
	}
}

// TestPlacesAskedAtOnce asks from several goroutines, which get the same answers.
func TestPlacesAskedAtOnce(t *testing.T) {
	p := mustParse(t, manyText)
	puts := []int{0, 2, 5, 9}
	want, _ := impl.DropMost(p, "x", puts)
	atOnce(func() {
		if got, ok := impl.DropMost(p, "x", puts); !reflect.DeepEqual(got, want) || !ok || !impl.PlaceValid(p, "x", got) {
			t.Errorf("DropMost = %v, %v", got, ok)
		}
	})
}

func TestPlaceArgumentsStay(t *testing.T) {
	for _, prog := range []impl.Prog{mustParse(t, example), mustParse(t, fullText), mustParse(t, manyText), build(blocks("A", "Bx", "C"), "AB", "BC", "BA")} {
		p, whole := withSpare(prog)
		before := copyOf(whole)
		list := []int{0, 1, 3, -7, 2, -7}
		for n := range len(list) + 1 {
			for _, drops := range []string{"", "B", "BD", "DB", "J"} {
				q := impl.Place{Puts: list[:n], Drops: drops}
				for _, term := range []string{"x", "y", "w"} {
					impl.PlaceShaped(p, term, q)
					impl.PlaceValid(p, term, q)
					impl.IsWanted(p, term, q)
					for _, name := range []string{"A", "B", "E", "J"} {
						impl.ThereWith(p, term, q, name)
					}
					for _, run := range []string{"ABDE", "ABCDEFGHI", "AE"} {
						impl.CountWith(p, term, q, run)
					}
					impl.DropMost(p, term, q.Puts)
				}
				impl.ParsePlace(p, impl.FormatPlace(p, q))
			}
		}
		for _, text := range []string{"-/-", "AB/B", "AB,BC/-", "BC,AB/-", "-/DB"} {
			impl.ParsePlace(p, text)
		}
		if !reflect.DeepEqual(whole, before) || !slices.Equal(list, []int{0, 1, 3, -7, 2, -7}) {
			t.Errorf("%v became %v, or the list %v", before, whole, list)
		}
	}
}

// TestPlacesShareNothing overwrites arguments and results, unused capacity included.
func TestPlacesShareNothing(t *testing.T) {
	spoil := func(list []int) {
		for i := range list[:cap(list)] {
			list[:cap(list)][i] = -9
		}
	}
	for _, puts := range [][]int{{3}, {0, 1}, {0, 1, 2, 3, 4}, {}} {
		p, whole := withSpare(mustParse(t, example))
		list := append(slices.Clone(puts), -7, -7, -7)[:len(puts)]
		text := slowPlaceText(p, impl.Place{Puts: puts})
		makers := []func() impl.Place{
			func() impl.Place { q, _ := impl.DropMost(p, "x", list); return q },
			func() impl.Place { q, _ := impl.ParsePlace(p, text); return q },
		}
		var kept []impl.Place
		for _, made := range makers {
			spoil(made().Puts)
			kept = append(kept, made())
			if again := made(); !slices.Equal(again.Puts, puts) || !slices.Equal(list[:len(puts)+3], append(slices.Clone(puts), -7, -7, -7)) {
				t.Errorf("%v becomes %v, or the list %v", puts, again, list[:len(puts)+3])
			}
		}
		drops := kept[0].Drops
		spoil(list)
		overwrite(whole)
		if !slices.Equal(kept[0].Puts, puts) || !slices.Equal(kept[1].Puts, puts) || kept[0].Drops != drops {
			t.Errorf("%v becomes %v when arguments are overwritten", puts, kept)
		}
	}
}
