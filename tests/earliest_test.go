package tests

import (
	"math"
	"math/rand"
	"reflect"
	"slices"
	"strings"
	"testing"

	"loop.example/onceways/impl"
)

// slowEarliest returns the earliest edges, by the letters of blocks and by following ways.
func slowEarliest(p impl.Prog, term string) []int {
	flow := slowFlow(p, term)
	var edges []int
	for i, e := range p.Edges {
		from, to := flow[e.From], flow[e.To]
		isEntry, spoils := e.From == p.Blocks[0].Name, strings.Contains(slowOps(p, e.From), strings.ToUpper(term))
		if to.wantedIn && !from.thereOut && (isEntry || !from.wantedOut || spoils) {
			edges = append(edges, i)
		}
	}
	return edges
}

// isAllowed tells whether a place that is shaped is valid and wanted.
func isAllowed(p impl.Prog, term string, q impl.Place) bool {
	return strings.Trim(q.Drops, slowThere(p, term, q)) == "" && slowWantedPlace(p, term, q)
}

// wantedEdges returns the edges that lead to blocks at whose beginning a term is wanted.
func wantedEdges(p impl.Prog, term string) []int {
	var list []int
	for i, e := range p.Edges {
		if slowWanted(p, term, []string{e.To}) {
			list = append(list, i)
		}
	}
	return list
}

// lettersIn returns the letters of a text that another one has as well.
func lettersIn(text, other string) string {
	return strings.Map(func(letter rune) rune {
		if !strings.ContainsRune(other, letter) {
			return -1
		}
		return letter
	}, text)
}

// allowedPlaces returns all places that are valid and wanted, or those of them alone that drop as much as they can.
func allowedPlaces(p impl.Prog, term string, most bool) []impl.Place {
	var list []impl.Place
	first, wanted := firstIn(p, term), wantedEdges(p, term)
	for set := range 1 << len(wanted) {
		var puts []int
		for _, i := range indicesOf(set) {
			puts = append(puts, wanted[i])
		}
		there := slowThere(p, term, impl.Place{Puts: puts})
		full := lettersIn(first, there)
		for drops := range 1 << len(full) {
			if !most || drops == 1<<len(full)-1 {
				list = append(list, impl.Place{Puts: puts, Drops: lettersOf(full, drops)})
			}
		}
	}
	return list
}

// checkEarliest holds all that the chapter's functions tell of a term against slow answers, but for what single runs save,
// and returns the earliest place.
func checkEarliest(t *testing.T, p impl.Prog, term string) impl.Place {
	t.Helper()
	text := impl.FormatProg(p)
	want := slowEarliest(p, term)
	edges, one := impl.EarliestEdges(p, term)
	q, two := impl.EarliestPlace(p, term)
	if !slices.Equal(edges, want) || !one || !slices.Equal(q.Puts, want) || q.Drops != firstIn(p, term) || !two {
		t.Fatalf("%q of %q: EarliestEdges is %v, %v, and EarliestPlace %v, %v, instead of %v", term, text, edges, one, q, two, want)
	}
	for i := -3; i < len(p.Edges)+3; i++ {
		if impl.EarliestOn(p, term, i) != slices.Contains(want, i) {
			t.Fatalf("%q of %q: EarliestOn(%d) is %v", term, text, i, !slices.Contains(want, i))
		}
	}
	if !isAllowed(p, term, q) || !impl.PlaceValid(p, term, q) || !impl.IsWanted(p, term, q) {
		t.Fatalf("%q of %q: %v is valid and wanted %v, told as valid %v, wanted %v", term, text, q, isAllowed(p, term, q), impl.PlaceValid(p, term, q), impl.IsWanted(p, term, q))
	}
	less := slowContest(p, term, q, impl.Place{})
	if !less.never || impl.CanSave(p, term) != less.better {
		t.Fatalf("%q of %q: CanSave is %v, but with %v: %+v", term, text, impl.CanSave(p, term), q, less)
	}
	return q
}

// checkSaves holds what a run saves against one that is gone through, and returns it.
func checkSaves(t *testing.T, p impl.Prog, term string, q impl.Place, run string) int {
	t.Helper()
	text := impl.FormatProg(p)
	got, want := impl.SavesOn(p, term, run), moreOn(p, term, impl.Place{}, q, run)
	if got != want || got < 0 {
		t.Fatalf("SavesOn(%q, %q, %q) = %d instead of %d", text, term, run, got, want)
	}
	if _, missing := goneThrough(p, term, q, run); missing != "" {
		t.Fatalf("%q of %q with %v: on %q it is not there at %q", term, text, q, run, missing)
	}
	if got > 0 && !impl.CanSave(p, term) {
		t.Fatalf("%q of %q: %q saves %d, but CanSave is false", term, text, run, got)
	}
	return got
}

// checkLeast holds the earliest place against places that are valid and wanted, on all runs of any number of blocks, and
// returns against how many of them it computes less on some run.
func checkLeast(t *testing.T, p impl.Prog, term string, q impl.Place, others []impl.Place) int {
	t.Helper()
	less := 0
	for _, r := range others {
		if most := slowMost(p, term, q, r); !noneMore(most) {
			t.Fatalf("%q of %q: %v computes more than %v: %q", term, impl.FormatProg(p), q, r, most)
		}
		if more, bound := impl.MostMore(p, term, q, r); more > 0 || !bound {
			t.Fatalf("%q of %q: MostMore of %v and %v is %d, %v", term, impl.FormatProg(p), q, r, more, bound)
		}
		if !noneMore(slowMost(p, term, r, q)) {
			less++
		}
	}
	return less
}

func TestEarliestExample(t *testing.T) {
	p := mustParse(t, example)
	q, ok := impl.EarliestPlace(p, "x")
	if got := impl.FormatPlace(p, q); got != "AB,AC/BD" || !slices.Equal(q.Puts, []int{0, 1}) || q.Drops != "BD" || !ok {
		t.Errorf("EarliestPlace = %v, %v", q, ok)
	}
	if edges, ok := impl.EarliestEdges(p, "x"); !slices.Equal(edges, []int{0, 1}) || !ok {
		t.Errorf("EarliestEdges = %v, %v", edges, ok)
	}
	for i, want := range []bool{true, true, false, false, false, false} {
		if impl.EarliestOn(p, "x", i) != want {
			t.Errorf("EarliestOn(%d) = %v", i, !want)
		}
	}
	for run, want := range map[string]int{"ABDE": 1, "ACDE": 0, "ABE": -1} {
		if got := impl.SavesOn(p, "x", run); got != want {
			t.Errorf("SavesOn %q = %d", run, got)
		}
	}
	if !impl.CanSave(p, "x") || !impl.PlaceValid(p, "x", q) || !impl.IsWanted(p, "x", q) {
		t.Errorf("CanSave is %v, valid %v, wanted %v", impl.CanSave(p, "x"), impl.PlaceValid(p, "x", q), impl.IsWanted(p, "x", q))
	}
}

// TestEarliestWrittenOut has the answers for x written out, and what some runs save.
func TestEarliestWrittenOut(t *testing.T) {
	for _, c := range []struct {
		prog, place string
		can         bool
		saves       map[string]int
	}{
		// Several ways to a block.
		{example, "AB,AC/BD", true, map[string]int{"ABDE": 1, "ACDE": 0}},
		{"A,Bx,Cx,Dx,E:AB,AC,BD,CD,DE", "AB,AC/BCD", true, map[string]int{"ABDE": 1, "ACDE": 1}},
		{"A,Bx,Cx,D,E:AB,AC,BD,CD,DE", "AB,AC/BC", false, map[string]int{"ABDE": 0, "ACDE": 0}},
		{"A,Bx,C,D,E:AB,AC,BD,CD,DE", "AB/B", false, map[string]int{"ABDE": 0, "ACDE": 0}},
		{"A,Bx,CX,Dx,E:AB,AC,BD,CD,DE", "AB,CD/BD", true, map[string]int{"ABDE": 1, "ACDE": 0}},
		{"A,Bx,CX,Dx,E:AB,BC,BD,CD,DE", "AB,CD/BD", true, map[string]int{"ABDE": 1, "ABCDE": 0}},
		{"A,Bx,Cx,D:AB,AC,BC,CD", "AB,AC/BC", true, map[string]int{"ABCD": 1, "ACD": 0}},
		// Edges that lead from the entry, also to the exit.
		{"A,B:AB", "-/-", false, map[string]int{"AB": 0}},
		{"A,Bx:AB", "AB/B", false, map[string]int{"AB": 0}},
		{"A,BX:AB", "-/-", false, map[string]int{"AB": 0}},
		{"A,BXx:AB", "-/-", false, map[string]int{"AB": 0}},
		{"A,BxX:AB", "AB/B", false, map[string]int{"AB": 0}},
		{"A,B,Cx,D:AB,BC,CD", "AB/C", false, map[string]int{"ABCD": 0}},
		{"A,Bx,C:AB,AC,BC", "AB/B", false, map[string]int{"ABC": 0, "AC": 0}},
		{"A,Bx,Cx:AB,AC,BC", "AB,AC/BC", true, map[string]int{"ABC": 1, "AC": 0}},
		{"A,B,C,D,Ex:AB,AC,AD,BE,CE,DE", "AB,AC,AD/E", false, map[string]int{"ABE": 0, "ACE": 0, "ADE": 0}},
		{"A,BX,C,D,Ex:AB,AC,AD,BE,CE,DE", "AC,AD,BE/E", false, map[string]int{"ABE": 0, "ACE": 0, "ADE": 0}},
		// Wanted on some ways alone, and blocks at whose end it is not wanted.
		{maybeText, "BC/C", false, map[string]int{"ABD": 0, "ABCBD": 0, "ABCBCBD": 0}},
		{"A,B,Cx,D,E:AB,BC,BD,CE,DE", "BC/C", false, map[string]int{"ABCE": 0, "ABDE": 0}},
		{"A,B,Cx,DX,E:AB,BC,BD,CE,DE", "BC/C", false, map[string]int{"ABCE": 0, "ABDE": 0}},
		{"A,B,C,Dx,E:AB,BC,CB,CD,DE,BE", "CD/D", false, map[string]int{"ABE": 0, "ABCDE": 0, "ABCBCDE": 0}},
		{"A,B,CX,Dx,E:AB,BC,BD,CD,DE", "BD,CD/D", false, map[string]int{"ABDE": 0, "ABCDE": 0}},
		{"A,Bx,C,Dx,E:AB,AC,BD,CD,CE,DE", "AB,CD/BD", true, map[string]int{"ABDE": 1, "ACDE": 0, "ACE": 0}},
		{"A,Bx,C,Dx,E:AB,AC,BC,CD,CE,DE", "AB,CD/BD", false, map[string]int{"ABCE": 0, "ABCDE": 0, "ACDE": 0, "ACE": 0}},
		{"A,B,C,D,E:AB,BC,CD,CE,DE", "-/-", false, map[string]int{"ABCE": 0}},
		// Blocks that spoil.
		{"A,BX,Cx,D:AB,BC,CD", "BC/C", false, map[string]int{"ABCD": 0}},
		{"A,BxX,Cx,D:AB,BC,CD", "AB,BC/BC", false, map[string]int{"ABCD": 0}},
		{"A,Bx,CX,D:AB,BC,CD", "AB/B", false, map[string]int{"ABCD": 0}},
		{"A,Bx,CX,Dx,Ex,F:AB,BC,CD,DE,EF", "AB,CD/BDE", true, map[string]int{"ABCDEF": 1}},
		{"A,Bx,CY,Dx,E:AB,BC,CD,DE", "AB/BD", true, map[string]int{"ABCDE": 1}}, // another term
		{"A,BX,CX,D:AB,BC,CD", "-/-", false, map[string]int{"ABCD": 0}},
		// Blocks that spoil and compute again.
		{"A,BXx,Cx,D:AB,BC,CD", "-/C", true, map[string]int{"ABCD": 1}},
		{"A,Bx,CXx,Dx,E:AB,BC,CD,DE", "AB/BD", true, map[string]int{"ABCDE": 1}},
		{"A,BxXx,C:AB,BC", "AB/B", false, map[string]int{"ABC": 0}},
		{"A,BxXx,Cx,D:AB,BC,CD", "AB/BC", true, map[string]int{"ABCD": 1}},
		{"A,BxXxX,Cx,D:AB,BC,CD", "AB,BC/BC", false, map[string]int{"ABCD": 0}},
		{"A,BxxXxx,Cxx,D:AB,BC,CD", "AB/BC", true, map[string]int{"ABCD": 1}}, // blocks are tidy either way
		{"A,BXx,C,Dx,E:AB,AC,BD,CD,DE", "AC/D", true, map[string]int{"ABDE": 1, "ACDE": 0}},
		{"A,BxX,CXx,DxXx,ExX,Fx:AB,BC,CD,DE,EF,BD,CE,EB,DB", "AB,EF,BD,EB/BDEF", true, map[string]int{"ABCDEF": 2, "ABDEF": 1, "ABDBDEF": 2}},
		// Edges from a block to itself.
		{onceText, "AB/C", true, map[string]int{"ABCD": 0, "ABCCD": 1, "ABCCCD": 2}},
		{"A,Bx,C:AB,BB,BC", "AB/B", true, map[string]int{"ABC": 0, "ABBC": 1}},
		{"A,B,Cx,D:AB,BB,BC,CD", "AB/C", false, map[string]int{"ABCD": 0, "ABBBCD": 0}},
		{"A,BX,C:AB,BB,BC", "-/-", false, map[string]int{"ABBC": 0}},
		{"A,BxX,C:AB,BB,BC", "AB,BB/B", false, map[string]int{"ABC": 0, "ABBC": 0}},
		{"A,BXx,C:AB,BB,BC", "-/-", false, map[string]int{"ABC": 0, "ABBC": 0}},
		{"A,BxXx,C:AB,BB,BC", "AB/B", true, map[string]int{"ABC": 0, "ABBC": 1, "ABBBC": 2}},
		{"A,BX,Cx,D:AB,BB,BC,CD", "BC/C", false, map[string]int{"ABCD": 0, "ABBCD": 0}},
		{"A,BxX,Cx,D:AB,BB,BC,CD", "AB,BB,BC/BC", false, map[string]int{"ABCD": 0, "ABBBCD": 0}},
		// Loops out of which it is moved, each time or once.
		{"A,B,Cx,D:AB,BC,CB,CD", "AB/C", true, map[string]int{"ABCD": 0, "ABCBCD": 1, "ABCBCBCD": 2}},
		{"A,B,C,Dx,E:AB,BC,CD,DC,DE", "AB/D", true, map[string]int{"ABCDE": 0, "ABCDCDE": 1}},
		{"A,Bx,Cx,DX,E:AB,BC,CD,DC,DE", "AB,DC/BC", true, map[string]int{"ABCDE": 1, "ABCDCDE": 1, "ABCDCDCDE": 1}},
		{"A,Bx,Cx,DX,E:AB,BC,CD,DB,DE", "AB,DB/BC", true, map[string]int{"ABCDE": 1, "ABCDBCDE": 2}},
		{"A,Bx,Cx,D:AB,AC,BC,CB,BD,CD", "AB,AC/BC", true, map[string]int{"ABD": 0, "ACD": 0, "ABCD": 1, "ACBD": 1, "ABCBD": 2}},
		{"A,B,C,Dx,E,F:AB,BC,CD,DC,DE,EB,EF", "AB/D", true, map[string]int{"ABCDEF": 0, "ABCDCDEF": 1, "ABCDEBCDEF": 1}},
		{"A,B,C,Dx,EX,F:AB,BC,CD,DC,DE,EB,EF", "AB,EB/D", true, map[string]int{"ABCDEF": 0, "ABCDCDEF": 1, "ABCDEBCDEF": 0, "ABCDEBCDCDEF": 1}},
		// Loops out of which nothing can be moved.
		{loopText, "BC/C", false, map[string]int{"ABD": 0, "ABCBD": 0, "ABCBCBD": 0}},
		{leftText, "BC/C", false, map[string]int{"ABD": 0, "ABCD": 0, "ABCBCD": 0}},
		{"A,B,CxX,D:AB,BC,CB,CD", "AB,CB/C", false, map[string]int{"ABCD": 0, "ABCBCD": 0}},
		{"A,B,Cx,DX,E:AB,BC,CD,DB,DE", "AB,DB/C", false, map[string]int{"ABCDE": 0, "ABCDBCDE": 0}},
		{"A,B,Cx,D,E:AB,BC,CD,DB,BE,DE", "BC/C", false, map[string]int{"ABE": 0, "ABCDE": 0, "ABCDBCDBE": 0}},
		{"A,Bx,C,DX,E:AB,BC,CD,DC,DE", "AB/B", false, map[string]int{"ABCDE": 0, "ABCDCDE": 0}},
		{"A,B,C,Dx,E:AB,BC,CB,CD,DE", "AB/D", false, map[string]int{"ABCDE": 0, "ABCBCDE": 0}}, // nothing is computed in it
	} {
		p := mustParse(t, c.prog)
		q := checkEarliest(t, p, "x")
		if got := impl.FormatPlace(p, q); got != c.place || impl.CanSave(p, "x") != c.can {
			t.Errorf("EarliestPlace of %q = %q, and CanSave is %v", c.prog, got, impl.CanSave(p, "x"))
		}
		for run, want := range c.saves {
			if got := checkSaves(t, p, "x", q, run); got != want {
				t.Errorf("SavesOn %q of %q = %d", run, c.prog, got)
			}
		}
	}
}

// TestNoAllowedPlaceComputesLess has all places that are valid and wanted of some programs, and all short runs.
func TestNoAllowedPlaceComputesLess(t *testing.T) {
	equal, less := 0, 0
	for _, text := range append([]string{
		maybeText, leftText, "A,B,Cx,D:AB,BC,CB,CD", "A,Bx,CXx,Dx,E:AB,BC,CD,DE,BD", "A,Bx,Cx,DX,E:AB,BC,CD,DC,DE", "A,Bx,C,Dx,E:AB,AC,BD,CD,CE,DE",
		"A,B,C,Dx,EX,F:AB,BC,CD,DC,DE,EB,EF", "A,BxX,Cx,D:AB,BB,BC,CB,CD,BD",
	}, placeTexts...) {
		p := mustParse(t, text)
		q := checkEarliest(t, p, "x")
		all, runs := allowedPlaces(p, "x", false), runsOfAll(p, 7)
		if !slices.ContainsFunc(all, func(r impl.Place) bool { return reflect.DeepEqual(r, q) }) || !slices.ContainsFunc(all, isNoPlace) {
			t.Fatalf("%q: %v, or the place without edges and blocks, is missing among %v", text, q, all)
		}
		for _, r := range all {
			if !isAllowed(p, "x", r) || !impl.PlaceValid(p, "x", r) || !impl.IsWanted(p, "x", r) {
				t.Fatalf("%q: %v is not valid and wanted", text, r)
			}
			for _, run := range runs {
				if one, other := impl.CountWith(p, "x", q, run), impl.CountWith(p, "x", r, run); one > other {
					t.Fatalf("%q: %v computes %d on %q, and %v %d", text, q, one, run, r, other)
				}
			}
		}
		n := checkLeast(t, p, "x", q, all)
		equal, less = equal+len(all)-n, less+n
	}
	if equal < 30 || less < 1000 {
		t.Errorf("%d places compute as often, and %d more often", equal, less)
	}
}

// TestEarliestOfAllEdges has every set of edges among a few blocks, against all places that are valid and wanted and drop as
// much as they can, and against all runs that are long enough to tell whether anything can be saved.
func TestEarliestOfAllEdges(t *testing.T) {
	words := []string{"", "x", "x", "x", "X", "xX", "Xx", "xXx", "xxXxx"}
	dice := rand.New(rand.NewSource(17))
	can, equal, less := 0, 0, 0
	for i, p := range smallProgs() {
		for k := range 6 {
			diceOps(dice, p, words)
			q := checkEarliest(t, p, "x")
			saved := 0
			for _, run := range runsOfAll(p, 7) {
				saved = max(saved, checkSaves(t, p, "x", q, run))
			}
			if impl.CanSave(p, "x") != (saved > 0) {
				t.Fatalf("%q: CanSave is %v, but runs save %d", impl.FormatProg(p), saved == 0, saved)
			}
			if saved > 0 {
				can++
			}
			if i%6 == k {
				all := allowedPlaces(p, "x", true)
				n := checkLeast(t, p, "x", q, all)
				equal, less = equal+len(all)-n, less+n
			}
		}
	}
	if can < 100 || equal < 100 || less < 1000 {
		t.Errorf("%d programs can save, %d places compute as often, and %d more often", can, equal, less)
	}
}

// TestEarliestOfProgs has larger programs, and places of theirs that are valid and wanted.
func TestEarliestOfProgs(t *testing.T) {
	dice := rand.New(rand.NewSource(18))
	can, less := 0, 0
	for i, p := range someProgs(t, 200) {
		if i%2 == 1 {
			diceOps(dice, p, []string{"", "", "x", "y", "x", "x", "X", "xX", "Xx"})
		}
		runs := sampleRuns(p)
		for _, term := range []string{"x", "y", "z"} {
			q, wanted := checkEarliest(t, p, term), wantedEdges(p, term)
			others := []impl.Place{{}}
			for range 5 {
				puts := slices.DeleteFunc(dicePlace(dice, p, term).Puts, func(i int) bool { return !slices.Contains(wanted, i) })
				most, _ := impl.DropMost(p, term, puts)
				others = append(others, most)
			}
			less += checkLeast(t, p, term, q, others)
			for range 10 {
				checkSaves(t, p, term, q, runs[dice.Intn(len(runs))])
			}
			if impl.CanSave(p, term) {
				can++
			}
		}
	}
	if can < 50 || less < 500 {
		t.Errorf("%d terms can be saved, and %d places compute more often", can, less)
	}
}

// TestEarliestOfAllWords has a block with all words of a few letters, behind and ahead of blocks that compute and spoil.
func TestEarliestOfAllWords(t *testing.T) {
	for _, word := range append(allWords("xX", 5), allWords("xXyY", 3)...) {
		for _, text := range []string{"A,B%,C:AB,BC", "A,B%,C:AB,BB,BC", "A,Bx,C%,Dx:AB,BC,CD", "A,BX,C%,Dx:AB,BC,CD", "A,Bx,C%,Dx,E:AB,AC,BD,CD,CB,DE", "A,Cx,B%,D:AC,AB,CB,CC,BC,BD"} {
			p := mustParse(t, strings.Replace(text, "%", word, 1))
			for _, term := range []string{"x", "y"} {
				q := checkEarliest(t, p, term)
				for _, run := range runsOfAll(p, 6) {
					checkSaves(t, p, term, q, run)
				}
			}
		}
	}
}

// TestEarliestOfTermsApart has terms of which some can be saved alone.
func TestEarliestOfTermsApart(t *testing.T) {
	p := mustParse(t, "A,Bx,CzX,Dxyz,E:AB,AC,BD,CD,DE")
	for _, c := range []struct {
		term, place string
		can         bool
		saves       [2]int
	}{{"x", "AB,CD/BD", true, [2]int{1, 0}}, {"y", "AB,AC/D", false, [2]int{0, 0}}, {"z", "AB,AC/CD", true, [2]int{0, 1}}} {
		q := checkEarliest(t, p, c.term)
		a, b := checkSaves(t, p, c.term, q, "ABDE"), checkSaves(t, p, c.term, q, "ACDE")
		if got := impl.FormatPlace(p, q); got != c.place || impl.CanSave(p, c.term) != c.can || a != c.saves[0] || b != c.saves[1] {
			t.Errorf("%q has %q, can be saved %v, and on runs %d and %d", c.term, got, impl.CanSave(p, c.term), a, b)
		}
	}
	// A term that no block computes.
	for _, text := range []string{"A,B:AB", "A,BY,CYY,D:AB,BC,CC,CD", "A,Bx,Cx,D:AB,BC,CD"} {
		p := mustParse(t, text)
		if q := checkEarliest(t, p, "y"); !isNoPlace(q) || impl.CanSave(p, "y") {
			t.Errorf("%q has %v of y, and CanSave is %v", text, q, impl.CanSave(p, "y"))
		}
	}
}

// TestEarliestInOrder has names and edges that are in no order.
func TestEarliestInOrder(t *testing.T) {
	for text, want := range map[string]string{
		"I,Dx,Gx,Bx,Ax,CX,H:ID,DG,GB,BA,AC,CH,IA,IB": "ID,IA,IB/DGBA",
		"I,Dx,Gx,Bx,Ax,CX,H:CH,IB,AC,IA,BA,GB,DG,ID": "IB,IA,ID/DGBA",
		"E,Dx,C,Bx,A:BA,DB,ED,CB,EC":                 "ED,EC/DB",
		"E,Bx,C,Dx,A:DA,CD,BD,EC,EB":                 "EC,EB/BD",
	} {
		p := mustParse(t, text)
		q := checkEarliest(t, p, "x")
		if got := impl.FormatPlace(p, q); got != want || !slices.IsSorted(q.Puts) {
			t.Errorf("EarliestPlace of %q = %q", text, got)
		}
	}
	for _, p := range someProgs(t, 40) {
		turned := copyOf(p)
		slices.Reverse(turned.Edges)
		for _, term := range []string{"x", "y", "z"} {
			q, one := impl.EarliestPlace(p, term)
			r, two := impl.EarliestPlace(turned, term)
			if want := turnedPlace(p, q); !slices.Equal(r.Puts, want.Puts) || r.Drops != want.Drops || !one || !two {
				t.Fatalf("%q of %q turned has %v, not %v", term, impl.FormatProg(p), r, want)
			}
		}
	}
}

// TestEarliestOfTheLargestProg has as many blocks and edges as there may be.
func TestEarliestOfTheLargestProg(t *testing.T) {
	for _, c := range []struct {
		words, place, run string
		saves             int
	}{
		{"x", "AB/BCDEFGHI", "ABCDEFGHI", 7},
		{"x", "AB/BCDEFGHI", "ABBCCDDEEFFGGHI", 13},
		{"xX", "AB,BC,CD,DE,EF,FG,GH,HI,BB,CC,DD,EE,FF,GG/BCDEFGHI", "ABBCCDDEEFFGGHI", 0},
		{"Xx", "-/-", "ABBCCDDEEFFGGHI", 0},
		{"xXx", "AB/BCDEFGHI", "ABBCCDDEEFFGGHI", 13},
		{"X", "-/-", "ABCDEFGHI", 0},
		{"", "-/-", "ABCDEFGHI", 0},
	} {
		p := mustParse(t, strings.ReplaceAll("A,B%,C%,D%,E%,F%,G%,H%,I%:AB,BC,CD,DE,EF,FG,GH,HI,BB,CC,DD,EE,FF,GG", "%", c.words))
		q := checkEarliest(t, p, "x")
		if got := impl.FormatPlace(p, q); got != c.place || checkSaves(t, p, "x", q, c.run) != c.saves || impl.CanSave(p, "x") != (c.saves > 0) {
			t.Errorf("%q: EarliestPlace is %q, SavesOn %d and CanSave %v", c.words, got, impl.SavesOn(p, "x", c.run), impl.CanSave(p, "x"))
		}
	}
}

// TestSavesOnFortyBlocks has runs with as many blocks as can be told, and with one more.
func TestSavesOnFortyBlocks(t *testing.T) {
	around := func(n int) string { return "AB" + strings.Repeat("C", n) + "D" }
	p := mustParse(t, onceText)
	for n, want := range map[int]int{1: 0, 2: 1, 36: 35, 37: 36, 38: -1, 1000000: -1} {
		if got := impl.SavesOn(p, "x", around(n)); got != want {
			t.Errorf("SavesOn %d times around = %d", n, got)
		}
	}
	spoilt := mustParse(t, "A,B,CxX,D:AB,BC,CC,CD")
	if got := impl.SavesOn(spoilt, "x", around(37)); got != 0 || impl.CanSave(spoilt, "x") {
		t.Errorf("SavesOn = %d, and CanSave is %v", got, impl.CanSave(spoilt, "x"))
	}
	// A loop so long that a run can go around it five times at most.
	late := mustParse(t, "A,B,C,D,E,F,G,Hx,I:AB,BC,CD,DE,EF,FG,GH,HB,HI")
	for n, want := range map[int]int{1: 0, 2: 1, 5: 4, 6: -1} {
		if got := impl.SavesOn(late, "x", "A"+strings.Repeat("BCDEFGH", n)+"I"); got != want {
			t.Errorf("SavesOn %d times around = %d", n, got)
		}
	}
}

// TestEarliestOfOtherProgs has programs that differ in terms or in what is computed again in a block.
func TestEarliestOfOtherProgs(t *testing.T) {
	for _, p := range someProgs(t, 60) {
		tidy, _ := impl.Tidy(p)
		run, _ := impl.ShortestRun(p)
		for _, pair := range []string{"xy", "yz", "zx", "xx"} {
			one, two := pair[:1], pair[1:]
			swapped, _ := impl.SwapTerms(p, one, two)
			want, _ := impl.EarliestPlace(p, one)
			a, _ := impl.EarliestPlace(swapped, two)
			if b, _ := impl.EarliestPlace(tidy, one); !reflect.DeepEqual(a, want) || !reflect.DeepEqual(b, want) {
				t.Fatalf("%q of %q: %v, swapped %v, tidy %v", one, impl.FormatProg(p), want, a, b)
			}
			saves, can := impl.SavesOn(p, one, run), impl.CanSave(p, one)
			if impl.SavesOn(swapped, two, run) != saves || impl.SavesOn(tidy, one, run) != saves || impl.CanSave(swapped, two) != can || impl.CanSave(tidy, one) != can {
				t.Fatalf("%q of %q: %d and %v, but not swapped or tidy", one, impl.FormatProg(p), saves, can)
			}
		}
	}
}

// noEarliest holds the answers where there is no earliest place.
func noEarliest(t *testing.T, p impl.Prog, term string) {
	t.Helper()
	edges, one := impl.EarliestEdges(p, term)
	q, two := impl.EarliestPlace(p, term)
	if len(edges) != 0 || one || !isNoPlace(q) || two || impl.CanSave(p, term) {
		t.Errorf("%.20q: %v %v, %v %v, CanSave %v", term, edges, one, q, two, impl.CanSave(p, term))
	}
	for _, i := range []int{-1, 0, 1, 2, 14} {
		if impl.EarliestOn(p, term, i) {
			t.Errorf("%.20q: EarliestOn(%d)", term, i)
		}
	}
	for _, run := range []string{"ABDE", "ACDE", "ABC", "AB", ""} {
		if got := impl.SavesOn(p, term, run); got != -1 {
			t.Errorf("%.20q: SavesOn %q = %d", term, run, got)
		}
	}
}

// checkNoTerm asks of words that are no term what is told of none.
func checkNoTerm(t *testing.T, none func(*testing.T, impl.Prog, string)) {
	t.Helper()
	for _, text := range []string{example, "A,BxyzXYZ,C,Dxyz,E:AB,AC,BD,CD,DE", "A,B:AB"} {
		for _, term := range notTerms {
			none(t, mustParse(t, text), term)
		}
	}
}

// checkBadProgs asks of programs that are not valid what is told of none.
func checkBadProgs(t *testing.T, none func(*testing.T, impl.Prog, string)) {
	t.Helper()
	for what, p := range badProgs() {
		before := t.Failed()
		for _, term := range []string{"x", "y", "z", "X", ""} {
			none(t, p, term)
		}
		if t.Failed() && !before {
			t.Errorf("it is %s", what)
		}
	}
}

func TestEarliestOfNoTerm(t *testing.T) { checkNoTerm(t, noEarliest) }

func TestEarliestOfProgsThatAreNotValid(t *testing.T) { checkBadProgs(t, noEarliest) }

// notIndices are the index of no edge in any program.
var notIndices = []int{-1, -2, -14, -16, -64, math.MinInt, math.MinInt + 1, -1 << 32, 14, 15, 16, 17, 63, 64, 65, 1 << 16, 1 << 32, 1<<32 + 1, math.MaxInt, math.MaxInt - 1}

// checkNoEdge asks of indices of no edge what is told of an edge.
func checkNoEdge(t *testing.T, on func(impl.Prog, string, int) bool) {
	t.Helper()
	for _, text := range []string{example, "A,Bx:AB", fullText, "A,BxX,CxX,DxX,ExX,FxX,GxX,HxX,IxX:AB,BC,CD,DE,EF,FG,GH,HI,BB,CC,DD,EE,FF,GG"} {
		p := mustParse(t, text)
		for _, i := range append([]int{len(p.Edges), len(p.Edges) + 1}, notIndices...) {
			for _, term := range []string{"x", "y", "z", "w"} {
				if on(p, term, i) {
					t.Errorf("%q of %q has edge %d", term, text, i)
				}
			}
		}
	}
}

func TestEarliestOnNoEdge(t *testing.T) { checkNoEdge(t, impl.EarliestOn) }

func TestSavesOnNoRun(t *testing.T) {
	p := mustParse(t, example)
	for _, run := range notRuns {
		for _, term := range []string{"x", "y", "z", "w", ""} {
			if got := impl.SavesOn(p, term, run); got != -1 {
				t.Errorf("SavesOn(%q, %.40q) = %d", term, run, got)
			}
		}
	}
}

// TestEarliestAskedAtOnce asks again and from several goroutines, which get the same answers.
func TestEarliestAskedAtOnce(t *testing.T) {
	p := mustParse(t, "A,Bx,Cx,DXy,EzZ,F:AB,AC,BC,BD,CC,CD,DB,DE,EC,EF")
	want := checkEarliest(t, p, "x")
	if len(want.Puts) < 2 || !impl.CanSave(p, "x") || impl.SavesOn(p, "x", "ABCCDEF") != 2 {
		t.Fatalf("%v, CanSave %v, SavesOn %d", want, impl.CanSave(p, "x"), impl.SavesOn(p, "x", "ABCCDEF"))
	}
	atOnce(func() {
		got, ok := impl.EarliestPlace(p, "x")
		saves, x, z := impl.SavesOn(p, "x", "ABCCDEF"), impl.CanSave(p, "x"), impl.CanSave(p, "z")
		if !reflect.DeepEqual(got, want) || !ok || saves != 2 || !x || z {
			t.Errorf("%v, %v, saves %d, and CanSave is %v, of z %v", got, ok, saves, x, z)
		}
	})
}

// checkStay asks of terms of some programs, which stay as they are, unused capacity included.
func checkStay(t *testing.T, ask func(p impl.Prog, term string)) {
	t.Helper()
	for _, prog := range []impl.Prog{mustParse(t, example), mustParse(t, fullText), mustParse(t, manyText), build(blocks("A", "Bx", "C"), "AB", "BC", "BA")} {
		p, whole := withSpare(prog)
		before := copyOf(whole)
		for _, term := range []string{"x", "y", "w"} {
			ask(p, term)
		}
		if !reflect.DeepEqual(whole, before) {
			t.Errorf("%v became %v", before, whole)
		}
	}
}

func TestEarliestArgumentsStay(t *testing.T) {
	checkStay(t, func(p impl.Prog, term string) {
		impl.EarliestEdges(p, term)
		impl.EarliestPlace(p, term)
		impl.CanSave(p, term)
		for _, i := range []int{-1, 0, 1, 14} {
			impl.EarliestOn(p, term, i)
		}
		for _, run := range []string{"ABDE", "ABE", "ABCDEFGHI", "AE"} {
			impl.SavesOn(p, term, run)
		}
	})
}

// checkApart overwrites arguments and answers, unused capacity included, of functions that return edges and places for x.
func checkApart(t *testing.T, text string, edgesOf func(impl.Prog, string) ([]int, bool), placeOf func(impl.Prog, string) (impl.Place, bool)) {
	t.Helper()
	p, whole := withSpare(mustParse(t, text))
	makers := []func() []int{
		func() []int { edges, _ := edgesOf(p, "x"); return edges },
		func() []int { q, _ := placeOf(p, "x"); return q.Puts },
	}
	want := slices.Clone(makers[0]())
	var kept [][]int
	for _, made := range append(makers, makers...) {
		edges := made()
		for i := range edges[:cap(edges)] {
			edges[:cap(edges)][i] = -9
		}
		kept = append(kept, made())
	}
	q, _ := placeOf(p, "x")
	drops := strings.Clone(q.Drops)
	overwrite(whole)
	for _, edges := range append(kept, q.Puts) {
		if !slices.Equal(edges, want) {
			t.Errorf("%q: %v became %v", text, want, edges)
		}
	}
	if q.Drops != drops {
		t.Errorf("%q: %q became %q", text, drops, q.Drops)
	}
}

func TestEarliestSharesNothing(t *testing.T) {
	for _, text := range []string{example, onceText, "A,Bx:AB", "A,BXx,Cx,D:AB,BC,CD", "A,BxX,CxX,DxX:AB,BC,CD,BB,CC", "A,Bx,Cx,D:AB,AC,BC,CB,BD,CD"} {
		checkApart(t, text, impl.EarliestEdges, impl.EarliestPlace)
	}
}
