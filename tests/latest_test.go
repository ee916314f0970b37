package tests

import (
	"math/rand"
	"reflect"
	"slices"
	"strings"
	"testing"

	"loop.example/onceways/impl"
)

// A later is where what is put on the earliest edges can be put off: the names of blocks, and edges.
type later struct {
	blocks string
	edges  []int
}

// laterAsk is a program with its earliest edges and the blocks that compute the term first.
type laterAsk struct {
	impl.Prog
	earliest []int
	first    string
}

// edges returns the edges to which the term can be put off if it can be to the beginnings of some blocks.
func (a laterAsk) edges(blocks string) []int {
	var list []int
	for i, e := range a.Edges {
		isBehind := strings.Contains(blocks, e.From) && !strings.Contains(a.first, e.From)
		if isBehind || slices.Contains(a.earliest, i) {
			list = append(list, i)
		}
	}
	return list
}

// allows tells whether the rules allow that the term is put off to the beginnings of all of some blocks.
func (a laterAsk) allows(blocks string) bool {
	edges := a.edges(blocks)
	for i, e := range a.Edges {
		if strings.Contains(blocks, e.To) && !slices.Contains(edges, i) {
			return false
		}
	}
	return !strings.Contains(blocks, a.Blocks[0].Name)
}

// slowLater tries all sets of blocks, and returns what some of those that the rules allow have.
func slowLater(p impl.Prog, term string) later {
	a := laterAsk{p, slowEarliest(p, term), firstIn(p, term)}
	names, found := namesOf(p), ""
	for set := range 1 << len(names) {
		if blocks := lettersOf(names, set); a.allows(blocks) {
			found += blocks
		}
	}
	all := lettersIn(names, found)
	return later{all, a.edges(all)}
}

// laterOnRuns returns the blocks and edges to which some runs never come without something that was put on an earliest edge
// and not computed first in a block since.
func laterOnRuns(p impl.Prog, term string, runs []string) later {
	earliest, first := slowEarliest(p, term), firstIn(p, term)
	blocks, edges := namesOf(p), indicesOf(1<<len(p.Edges)-1)
	for _, run := range runs {
		pending := false
		for i := range run {
			if i > 0 {
				e := slices.Index(p.Edges, edge(run[i-1:i], run[i:i+1]))
				pending = pending && !strings.Contains(first, run[i-1:i]) || slices.Contains(earliest, e)
				if !pending {
					edges = slices.DeleteFunc(edges, func(other int) bool { return other == e })
				}
			}
			if !pending {
				blocks = strings.ReplaceAll(blocks, run[i:i+1], "")
			}
		}
	}
	return later{blocks, edges}
}

// latestOf returns the latest place by where a term can be put off, and the blocks that are kept.
func latestOf(p impl.Prog, term string, l later) (impl.Place, string) {
	var q impl.Place
	kept := ""
	for _, i := range l.edges {
		if !strings.Contains(l.blocks, p.Edges[i].To) {
			q.Puts = append(q.Puts, i)
		}
	}
	for _, b := range p.Blocks {
		switch {
		case !wantedAhead(b.Ops, term):
		case strings.Contains(l.blocks, b.Name):
			kept += b.Name
		default:
			q.Drops += b.Name
		}
	}
	return q, kept
}

// laterText writes where a term can be put off.
func laterText(p impl.Prog, l later) string {
	text := l.blocks
	if text == "" {
		text = "-"
	}
	text += " :"
	for _, i := range l.edges {
		text += " " + p.Edges[i].From + p.Edges[i].To
	}
	return text
}

// checkLatest holds all that the chapter's functions tell of a term against slow answers, and the latest place against the
// earliest one on all runs of any number of blocks, and returns both.
func checkLatest(t *testing.T, p impl.Prog, term string) (impl.Place, impl.Place) {
	t.Helper()
	text, want := impl.FormatProg(p), slowLater(p, term)
	for _, b := range p.Blocks {
		if got := impl.LaterIn(p, term, b.Name); got != strings.Contains(want.blocks, b.Name) {
			t.Fatalf("%q of %q: LaterIn(%q) is %v", term, text, b.Name, got)
		}
	}
	for i := -3; i < len(p.Edges)+3; i++ {
		if got := impl.LaterOn(p, term, i); got != slices.Contains(want.edges, i) {
			t.Fatalf("%q of %q: LaterOn(%d) is %v", term, text, i, got)
		}
	}
	if got, ok := impl.LaterOf(p, term); got != laterText(p, want) || !ok {
		t.Fatalf("%q of %q: LaterOf is %q, %v, instead of %q", term, text, got, ok, laterText(p, want))
	}
	q, kept := latestOf(p, term, want)
	got, one := impl.LatestPlace(p, term)
	edges, two := impl.LatestEdges(p, term)
	if !slices.Equal(got.Puts, q.Puts) || got.Drops != q.Drops || !one || !slices.Equal(edges, q.Puts) || !two {
		t.Fatalf("%q of %q: LatestPlace is %v, %v, and LatestEdges %v, %v, instead of %v", term, text, got, one, edges, two, q)
	}
	if names, ok := impl.KeptIn(p, term); names != kept || !ok {
		t.Fatalf("%q of %q: KeptIn is %q, %v, instead of %q", term, text, names, ok, kept)
	}
	return got, checkAsMuch(t, p, term, got, kept)
}

// checkAsMuch holds the promise for a latest place and the blocks that are kept with it, and returns the earliest place.
func checkAsMuch(t *testing.T, p impl.Prog, term string, q impl.Place, kept string) impl.Place {
	t.Helper()
	text := impl.FormatProg(p)
	if !isAllowed(p, term, q) || !impl.PlaceValid(p, term, q) || !impl.IsWanted(p, term, q) {
		t.Fatalf("%q of %q: %v is valid and wanted %v, told as valid %v, wanted %v", term, text, q, isAllowed(p, term, q), impl.PlaceValid(p, term, q), impl.IsWanted(p, term, q))
	}
	if there := slowThere(p, term, q); strings.ContainsAny(there, kept) {
		t.Fatalf("%q of %q: with %v it is there at %q, but %q are kept", term, text, q, there, kept)
	}
	r, _ := impl.EarliestPlace(p, term)
	if c := slowContest(p, term, q, r); !c.same || !impl.SameCounts(p, term, q, r) {
		t.Fatalf("%q of %q: %v and %v compute as much %v, told as %v: %+v", term, text, q, r, c.same, impl.SameCounts(p, term, q, r), c)
	}
	return r
}

// checkAsOften holds a latest place against the earliest one on some runs.
func checkAsOften(t *testing.T, p impl.Prog, term string, q, r impl.Place, runs []string) {
	t.Helper()
	for _, run := range runs {
		one, other := impl.CountWith(p, term, q, run), impl.CountWith(p, term, r, run)
		done, missing := goneThrough(p, term, q, run)
		if one != other || one != strings.Count(done, term) || missing != "" {
			t.Fatalf("%q of %q: %q computes it %d times with %v and %d times with %v, goes through %q, and it is missing at %q", term, impl.FormatProg(p), run, one, q, other, r, done, missing)
		}
	}
}

func TestLatestExample(t *testing.T) {
	p := mustParse(t, example)
	q, ok := impl.LatestPlace(p, "x")
	if got := impl.FormatPlace(p, q); got != "CD/D" || !slices.Equal(q.Puts, []int{3}) || q.Drops != "D" || !ok {
		t.Errorf("LatestPlace = %v, %v", q, ok)
	}
	if edges, ok := impl.LatestEdges(p, "x"); !slices.Equal(edges, []int{3}) || !ok {
		t.Errorf("LatestEdges = %v, %v", edges, ok)
	}
	if kept, ok := impl.KeptIn(p, "x"); kept != "B" || !ok {
		t.Errorf("KeptIn = %q, %v", kept, ok)
	}
	if text, ok := impl.LaterOf(p, "x"); text != "BC : AB AC CD" || !ok {
		t.Errorf("LaterOf = %q, %v", text, ok)
	}
	for name, want := range map[string]bool{"A": false, "B": true, "C": true, "D": false, "E": false} {
		if impl.LaterIn(p, "x", name) != want {
			t.Errorf("LaterIn(%q) = %v", name, !want)
		}
	}
	for i, want := range []bool{true, true, false, true, false, false} {
		if impl.LaterOn(p, "x", i) != want {
			t.Errorf("LaterOn(%d) = %v", i, !want)
		}
	}
	if r, _ := impl.EarliestPlace(p, "x"); !impl.PlaceValid(p, "x", q) || !impl.IsWanted(p, "x", q) || !impl.SameCounts(p, "x", q, r) {
		t.Errorf("%v is valid %v, wanted %v, and computes as much as %v %v", q, impl.PlaceValid(p, "x", q), impl.IsWanted(p, "x", q), r, impl.SameCounts(p, "x", q, r))
	}
}

// TestLatestWrittenOut has the answers for x written out.
func TestLatestWrittenOut(t *testing.T) {
	for _, c := range []struct{ prog, place, kept, later string }{
		// Several ways to a block, which it can be put off to by all edges, by some, or by none.
		{example, "CD/D", "B", "BC : AB AC CD"},
		{"A,B,C,Dx,E:AB,AC,BD,CD,DE", "-/-", "D", "BCD : AB AC BD CD"},
		{"A,Bx,Cx,Dx,E:AB,AC,BD,CD,DE", "-/D", "BC", "BC : AB AC"},
		{"A,Bx,Cx,D,E:AB,AC,BD,CD,DE", "-/-", "BC", "BC : AB AC"},
		{"A,Bx,C,D,E:AB,AC,BD,CD,DE", "-/-", "B", "B : AB"},
		{"A,Bx,CX,Dx,E:AB,AC,BD,CD,DE", "CD/D", "B", "B : AB CD"},
		{"A,Bx,CX,Dx,E:AB,BC,BD,CD,DE", "CD/D", "B", "B : AB CD"},
		{"A,Bx,Cx,D:AB,AC,BC,CD", "AC/C", "B", "B : AB AC"},
		{"A,Bx,C,D,Ex,F:AB,AC,AD,BE,CE,DE,EF", "CE,DE/E", "B", "BCD : AB AC AD CE DE"},
		{"A,B,C,D,Ex,F:AB,AC,BD,BE,CE,DF,EF", "-/-", "E", "CE : AC BE CE"},
		{"A,Bx,C,D,Ex,Fx,G:AB,AC,BD,CD,DE,DF,EG,FG", "CD/EF", "B", "BC : AB AC CD"},
		{"A,B,C,Dx,E,Fx,G:AB,AC,BD,CE,DF,EF,FG", "EF/F", "D", "BCDE : AB AC BD CE EF"},
		{"A,Bx,C,D,E,Fx,G:AB,AC,BF,CD,CE,DF,EF,FG", "DF,EF/F", "B", "BCDE : AB AC CD CE DF EF"},
		// Edges that lead from the entry, also to the exit.
		{"A,Bx:AB", "-/-", "B", "B : AB"},
		{"A,B,Cx,D:AB,BC,CD", "-/-", "C", "BC : AB BC"},
		{"A,B,C,Dx:AB,BC,CD", "-/-", "D", "BCD : AB BC CD"},
		{"A,Bx,C:AB,AC,BC", "-/-", "B", "B : AB"},
		{"A,Bx,Cx:AB,AC,BC", "AC/C", "B", "B : AB AC"},
		{"A,BX,C,D,Ex:AB,AC,AD,BE,CE,DE", "-/-", "E", "CDE : AC AD BE CE DE"},
		// No edge is an earliest one.
		{"A,B:AB", "-/-", "", "- :"},
		{"A,BX:AB", "-/-", "", "- :"},
		{"A,B,C,D,E:AB,BC,CD,CE,DE", "-/-", "", "- :"},
		{"A,BX,C:AB,BB,BC", "-/-", "", "- :"},
		{"A,BXx,C:AB,BB,BC", "-/-", "", "- :"},
		{"A,BXx,Cx,D:AB,BC,CD", "-/C", "", "- :"},
		// Wanted on some ways alone.
		{maybeText, "-/-", "C", "C : BC"},
		{"A,B,Cx,D,E:AB,BC,BD,CE,DE", "-/-", "C", "C : BC"},
		{"A,Bx,C,Dx,E:AB,AC,BD,CD,CE,DE", "CD/D", "B", "B : AB CD"},
		{"A,Bx,C,Dx,E:AB,AC,BC,CD,CE,DE", "-/-", "BD", "BD : AB CD"},
		// Blocks that compute first, from which it can be put off no further, and blocks that spoil.
		{"A,Bx,Cx,D:AB,BC,CD", "-/C", "B", "B : AB"},
		{"A,BX,Cx,D:AB,BC,CD", "-/-", "C", "C : BC"},
		{"A,BxX,Cx,D:AB,BC,CD", "-/-", "BC", "BC : AB BC"},
		{"A,Bx,CX,D:AB,BC,CD", "-/-", "B", "B : AB"},
		{"A,Bx,CX,Dx,Ex,F:AB,BC,CD,DE,EF", "-/E", "BD", "BD : AB CD"},
		{"A,Bx,CY,Dx,E:AB,BC,CD,DE", "-/D", "B", "B : AB"}, // another term
		{"A,B,CY,Dx,E:AB,BC,CD,DE", "-/-", "D", "BCD : AB BC CD"},
		{"A,B,Cy,Dx,E:AB,BC,CD,DE", "-/-", "D", "BCD : AB BC CD"},
		{"A,BX,C,D,Ex,F:AB,BC,BD,CE,DE,EF", "-/-", "E", "CDE : BC BD CE DE"},
		// Blocks that spoil and compute again.
		{"A,Bx,CXx,Dx,E:AB,BC,CD,DE", "-/D", "B", "B : AB"},
		{"A,BXx,C,Dx,E:AB,AC,BD,CD,DE", "CD/D", "", "C : AC CD"},
		{"A,BxXx,C:AB,BC", "-/-", "B", "B : AB"},
		{"A,BxXx,Cx,D:AB,BC,CD", "-/C", "B", "B : AB"},
		{"A,BxxXxx,Cxx,D:AB,BC,CD", "-/C", "B", "B : AB"}, // blocks are tidy either way
		// Edges from a block to itself.
		{onceText, "BC/C", "", "B : AB BC"},
		{"A,B,Cx,D:AB,BB,BC,CD", "-/-", "C", "BC : AB BB BC"},
		{"A,Bx,C:AB,BB,BC", "AB/B", "", "- : AB"},
		{"A,BxX,C:AB,BB,BC", "-/-", "B", "B : AB BB"},
		{"A,BxXx,C:AB,BB,BC", "AB/B", "", "- : AB"},
		{"A,BX,Cx,D:AB,BB,BC,CD", "-/-", "C", "C : BC"},
		{"A,BxX,Cx,D:AB,BB,BC,CD", "-/-", "BC", "BC : AB BB BC"},
		// Loops around which it is put off.
		{"A,B,C,Dx,E:AB,BC,CB,CD,DE", "-/-", "D", "BCD : AB BC CB CD"},
		{"A,B,C,Dx,E:AB,BC,CC,CB,CD,DE", "-/-", "D", "BCD : AB BC CC CB CD"},
		{"A,B,C,D,Ex,F:AB,AC,BC,CB,BD,CD,DE,EF", "-/-", "E", "BCDE : AB AC BC CB BD CD DE"},
		{"A,B,C,Dx,E:AB,BC,CB,CD,DE,BE", "-/-", "D", "D : CD"}, // wanted behind the loop alone
		// Loops that nothing is put off into.
		{"A,B,Cx,D:AB,BC,CB,CD", "AB/C", "", "- : AB"},
		{"A,B,C,Dx,E:AB,BC,CD,DC,DE", "BC/D", "", "B : AB BC"},
		{"A,B,C,Dx,E:AB,BC,CD,DB,DE", "AB/D", "", "- : AB"},
		{"A,Bx,Cx,DX,E:AB,BC,CD,DC,DE", "DC/C", "B", "B : AB DC"},
		{"A,Bx,Cx,D:AB,AC,BC,CB,BD,CD", "AB,AC/BC", "", "- : AB AC"},
		{"A,Bx,C,D,Ex,F:AB,BC,CD,DC,DE,AC,EF", "AC/E", "B", "B : AB AC"},
		{"A,B,C,Dx,E,F:AB,BC,CD,DC,DE,EB,EF", "AB/D", "", "- : AB"},
		{"A,B,C,Dx,EX,F:AB,BC,CD,DC,DE,EB,EF", "BC/D", "", "B : AB BC EB"}, // into the outer one alone
		// Loops that spoil it, and loops that one may not enter.
		{"A,B,CxX,D:AB,BC,CB,CD", "-/-", "C", "BC : AB BC CB"},
		{"A,B,Cx,DX,E:AB,BC,CD,DB,DE", "-/-", "C", "BC : AB BC DB"},
		{loopText, "-/-", "C", "C : BC"},
		{leftText, "-/-", "C", "C : BC"},
		{"A,B,Cx,D,E:AB,BC,CD,DB,BE,DE", "-/-", "C", "C : BC"},
	} {
		p := mustParse(t, c.prog)
		q, r := checkLatest(t, p, "x")
		checkAsOften(t, p, "x", q, r, runsOfAll(p, 8))
		kept, one := impl.KeptIn(p, "x")
		text, two := impl.LaterOf(p, "x")
		if got := impl.FormatPlace(p, q); got != c.place || kept != c.kept || !one || text != c.later || !two {
			t.Errorf("%q has %q, %q and %q", c.prog, got, kept, text)
		}
	}
}

// TestLatestOfAllEdges has every set of edges among a few blocks, and all runs that are long enough to refute what cannot be
// put off.
func TestLatestOfAllEdges(t *testing.T) {
	words := []string{"", "", "x", "x", "X", "xX", "Xx", "xXx", "xxXxx"}
	dice := rand.New(rand.NewSource(19))
	moved, kept, around := 0, 0, 0
	for _, p := range smallProgs() {
		for range 6 {
			diceOps(dice, p, words)
			q, r := checkLatest(t, p, "x")
			runs := runsOfAll(p, 7)
			checkAsOften(t, p, "x", q, r, runs)
			want := slowLater(p, "x")
			if got := laterOnRuns(p, "x", runs); got.blocks != want.blocks || !slices.Equal(got.edges, want.edges) {
				t.Fatalf("%q: by runs it can be put off to %q, not to %q", impl.FormatProg(p), laterText(p, got), laterText(p, want))
			}
			if !slices.Equal(q.Puts, r.Puts) {
				moved++
			}
			if names, _ := impl.KeptIn(p, "x"); names != "" {
				kept++
			}
			if slices.ContainsFunc(want.edges, func(i int) bool { return p.Edges[i].From == p.Edges[i].To }) {
				around++
			}
		}
	}
	if moved < 300 || kept < 300 || around < 100 {
		t.Errorf("%d places are moved, in %d programs some blocks are kept, and in %d it is put off around a loop", moved, kept, around)
	}
}

// largeProgs returns programs of nine blocks and fourteen edges, in which few blocks do anything.
func largeProgs(dice *rand.Rand, count int) []impl.Prog {
	const names = "IHGFEDCBA"
	var list []impl.Prog
	for len(list) < count {
		p := impl.Prog{Blocks: chain(names)}
		for i := 1; i < 9; i++ {
			p.Edges = append(p.Edges, edge(names[i-1:i], names[i:i+1]))
		}
		// One edge of the chain or two are missing, so that there are several ways.
		for range 1 + dice.Intn(2) {
			p.Edges = slices.Delete(p.Edges, 3, 4)
		}
		for len(p.Edges) < impl.MaxEdges {
			from, to := dice.Intn(8), 1+dice.Intn(8)
			if e := edge(names[from:from+1], names[to:to+1]); to < from+4 && !slices.Contains(p.Edges, e) {
				p.Edges = append(p.Edges, e)
			}
		}
		diceOps(dice, p, []string{"", "", "", "", "x", "xy", "yz", "z", "X", "xX"})
		if slowValid(p) {
			list = append(list, p)
		}
	}
	return list
}

// TestLatestOfProgs has larger programs.
func TestLatestOfProgs(t *testing.T) {
	moved, put, kept := 0, 0, 0
	for _, p := range append(largeProgs(rand.New(rand.NewSource(20)), 100), someProgs(t, 100)...) {
		runs := sampleRuns(p)
		for _, term := range []string{"x", "y", "z"} {
			q, r := checkLatest(t, p, term)
			checkAsOften(t, p, term, q, r, runs)
			want, onRuns := slowLater(p, term), laterOnRuns(p, term, runs)
			if strings.Trim(want.blocks, onRuns.blocks) != "" || slices.ContainsFunc(want.edges, func(i int) bool { return !slices.Contains(onRuns.edges, i) }) {
				t.Fatalf("%q of %q: by runs it can be put off to %q, and by the rules to %q", term, impl.FormatProg(p), laterText(p, onRuns), laterText(p, want))
			}
			if !slices.Equal(q.Puts, r.Puts) {
				moved++
			}
			if len(q.Puts) > 0 {
				put++
			}
			if names, _ := impl.KeptIn(p, term); names != "" {
				kept++
			}
		}
	}
	if moved < 100 || put < 100 || kept < 100 {
		t.Errorf("%d places are moved, %d have edges, and for %d terms some blocks are kept", moved, put, kept)
	}
}

// TestLatestOfAllWords has a block with all words of a few letters, behind and ahead of blocks that compute and spoil.
func TestLatestOfAllWords(t *testing.T) {
	for _, word := range append(allWords("xX", 4), allWords("xXyY", 3)...) {
		for _, text := range []string{"A,B%,C:AB,BC", "A,B,C%,Dx:AB,BB,BC,CD", "A,BX,C%,Dx:AB,BC,CD", "A,Bx,C%,Dx,E:AB,AC,BD,CD,CB,DE", "A,C,B%,Dx,E:AC,AB,CB,CC,BC,BD,DE"} {
			p := mustParse(t, strings.Replace(text, "%", word, 1))
			for _, term := range []string{"x", "y"} {
				q, r := checkLatest(t, p, term)
				checkAsOften(t, p, term, q, r, runsOfAll(p, 6))
			}
		}
	}
}

// TestLatestOfTermsApart has terms that are put off to different blocks.
func TestLatestOfTermsApart(t *testing.T) {
	p := mustParse(t, "A,Bx,CzX,Dxyz,E:AB,AC,BD,CD,DE")
	for _, c := range []struct{ term, place, kept, later string }{
		{"x", "CD/D", "B", "B : AB CD"},
		{"y", "-/-", "D", "BCD : AB AC BD CD"},
		{"z", "BD/D", "C", "BC : AB AC BD"},
	} {
		q, _ := checkLatest(t, p, c.term)
		kept, _ := impl.KeptIn(p, c.term)
		text, _ := impl.LaterOf(p, c.term)
		if got := impl.FormatPlace(p, q); got != c.place || kept != c.kept || text != c.later {
			t.Errorf("%q has %q, %q and %q", c.term, got, kept, text)
		}
	}
	// A term that no block computes.
	for _, text := range []string{"A,B:AB", "A,BY,CYY,D:AB,BC,CC,CD", "A,Bx,Cx,D:AB,BC,CD"} {
		p := mustParse(t, text)
		q, _ := checkLatest(t, p, "y")
		if later, ok := impl.LaterOf(p, "y"); !isNoPlace(q) || later != "- :" || !ok {
			t.Errorf("%q has %v and %q, %v", text, q, later, ok)
		}
	}
}

// TestLatestInOrder has names and edges that are in no order.
func TestLatestInOrder(t *testing.T) {
	for _, c := range []struct{ prog, place, kept, later string }{
		{"I,Dx,Gx,Bx,Ax,CX,H:ID,DG,GB,BA,AC,CH,IA,IB", "IA,IB/GBA", "D", "D : ID IA IB"},
		{"E,Dx,C,Bx,A:BA,DB,ED,CB,EC", "CB/B", "D", "DC : ED CB EC"},
		{"E,Bx,C,Dx,A:DA,CD,BD,EC,EB", "CD/D", "B", "BC : CD EC EB"},
		{"E,B,C,D,A:DA,CD,BD,EC,EB", "-/-", "", "- :"},
		{"C,I,A,Hx,B:CI,AH,CA,IH,HB", "-/-", "H", "IAH : CI AH CA IH"},
	} {
		p := mustParse(t, c.prog)
		q, _ := checkLatest(t, p, "x")
		kept, _ := impl.KeptIn(p, "x")
		text, _ := impl.LaterOf(p, "x")
		if got := impl.FormatPlace(p, q); got != c.place || kept != c.kept || text != c.later || !slices.IsSorted(q.Puts) {
			t.Errorf("%q has %q, %q and %q", c.prog, got, kept, text)
		}
	}
	for _, p := range someProgs(t, 40) {
		turned := copyOf(p)
		slices.Reverse(turned.Edges)
		for _, term := range []string{"x", "y", "z"} {
			q, one := impl.LatestPlace(p, term)
			r, two := impl.LatestPlace(turned, term)
			a, _ := impl.KeptIn(p, term)
			b, _ := impl.KeptIn(turned, term)
			if want := turnedPlace(p, q); !slices.Equal(r.Puts, want.Puts) || r.Drops != want.Drops || a != b || !one || !two {
				t.Fatalf("%q of %q turned has %v and %q, not %v and %q", term, impl.FormatProg(p), r, b, want, a)
			}
		}
	}
}

// TestLatestOfTheLargestProg has as many blocks and edges as there may be.
func TestLatestOfTheLargestProg(t *testing.T) {
	for _, c := range []struct{ words, last, place, kept, later string }{
		{"", "x", "-/-", "I", "BCDEFGHI : AB BC CD DE EF FG GH HI BB CC DD EE FF GG"},
		{"x", "x", "AB/BCDEFGHI", "", "- : AB"},
		{"xX", "", "-/-", "BCDEFGH", "BCDEFGH : AB BC CD DE EF FG GH BB CC DD EE FF GG"},
		{"xX", "x", "-/-", "BCDEFGHI", "BCDEFGHI : AB BC CD DE EF FG GH HI BB CC DD EE FF GG"},
		{"Xx", "x", "-/I", "", "- :"},
		{"xXx", "x", "AB/BCDEFGHI", "", "- : AB"},
		{"X", "x", "-/-", "I", "I : HI"},
		{"X", "", "-/-", "", "- :"},
	} {
		p := mustParse(t, strings.ReplaceAll("A,B%,C%,D%,E%,F%,G%,H%,I", "%", c.words)+c.last+":AB,BC,CD,DE,EF,FG,GH,HI,BB,CC,DD,EE,FF,GG")
		q, r := checkLatest(t, p, "x")
		checkAsOften(t, p, "x", q, r, []string{"ABCDEFGHI", "ABBCCDDEEFFGGHI"})
		kept, _ := impl.KeptIn(p, "x")
		text, _ := impl.LaterOf(p, "x")
		if got := impl.FormatPlace(p, q); got != c.place || kept != c.kept || text != c.later {
			t.Errorf("%q and %q have %q, %q and %q", c.words, c.last, got, kept, text)
		}
	}
}

// TestLatestOnFortyBlocks has runs with as many blocks as can be told, and a place that is put once ahead of their loop.
func TestLatestOnFortyBlocks(t *testing.T) {
	p := mustParse(t, onceText)
	q, r := checkLatest(t, p, "x")
	for n := 1; n <= 37; n++ {
		run := "AB" + strings.Repeat("C", n) + "D"
		checkAsOften(t, p, "x", q, r, []string{run})
		if got := impl.CountWith(p, "x", q, run); got != 1 {
			t.Errorf("%d times around, it is computed %d times", n, got)
		}
	}
}

// TestLatestOfOtherProgs has programs that differ in terms or in what is computed again in a block.
func TestLatestOfOtherProgs(t *testing.T) {
	for _, p := range someProgs(t, 60) {
		tidy, _ := impl.Tidy(p)
		for _, pair := range []string{"xy", "yz", "zx", "xx"} {
			one, two := pair[:1], pair[1:]
			swapped, _ := impl.SwapTerms(p, one, two)
			want, _ := impl.LatestPlace(p, one)
			a, _ := impl.LatestPlace(swapped, two)
			b, _ := impl.LatestPlace(tidy, one)
			if !reflect.DeepEqual(a, want) || !reflect.DeepEqual(b, want) {
				t.Fatalf("%q of %q: %v, swapped %v, tidy %v", one, impl.FormatProg(p), want, a, b)
			}
			text, _ := impl.LaterOf(p, one)
			c, _ := impl.LaterOf(swapped, two)
			if d, _ := impl.LaterOf(tidy, one); c != text || d != text {
				t.Fatalf("%q of %q: %q, swapped %q, tidy %q", one, impl.FormatProg(p), text, c, d)
			}
		}
	}
}

// noLatest holds the answers where there is no latest place.
func noLatest(t *testing.T, p impl.Prog, term string) {
	t.Helper()
	edges, one := impl.LatestEdges(p, term)
	q, two := impl.LatestPlace(p, term)
	kept, three := impl.KeptIn(p, term)
	text, four := impl.LaterOf(p, term)
	if len(edges) != 0 || one || !isNoPlace(q) || two || kept != "" || three || text != "" || four {
		t.Errorf("%.20q: %v %v, %v %v, %q %v, %q %v", term, edges, one, q, two, kept, three, text, four)
	}
	for _, i := range []int{-1, 0, 1, 2, 14} {
		if impl.LaterOn(p, term, i) {
			t.Errorf("%.20q: LaterOn(%d)", term, i)
		}
	}
	for _, name := range append([]string{"A", "B", "C", "D", "E"}, notNames...) {
		if impl.LaterIn(p, term, name) {
			t.Errorf("%.20q: LaterIn(%.20q)", term, name)
		}
	}
}

func TestLatestOfNoTerm(t *testing.T) { checkNoTerm(t, noLatest) }

func TestLatestOfProgsThatAreNotValid(t *testing.T) { checkBadProgs(t, noLatest) }

func TestLaterInNoBlock(t *testing.T) {
	for _, text := range []string{example, "A,B,C,D,Ex:AB,BC,CD,DE"} {
		p := mustParse(t, text)
		for _, name := range notNames {
			for _, term := range []string{"x", "y", "w"} {
				if impl.LaterIn(p, term, name) {
					t.Errorf("LaterIn(%q, %q, %.40q)", text, term, name)
				}
			}
		}
	}
}

func TestLaterOnNoEdge(t *testing.T) { checkNoEdge(t, impl.LaterOn) }

// TestLatestAskedAtOnce asks again and from several goroutines, which get the same answers.
func TestLatestAskedAtOnce(t *testing.T) {
	p := mustParse(t, "A,Bx,C,Dx,Ey,Fz,G:AB,AC,BD,CD,DE,ED,EF,FG")
	want, _ := checkLatest(t, p, "x")
	if impl.FormatPlace(p, want) != "CD/D" {
		t.Fatalf("%v", want)
	}
	atOnce(func() {
		got, one := impl.LatestPlace(p, "x")
		kept, two := impl.KeptIn(p, "x")
		text, three := impl.LaterOf(p, "z")
		if !reflect.DeepEqual(got, want) || !one || kept != "B" || !two || text != "BCDEF : AB AC BD CD DE ED EF" || !three {
			t.Errorf("%v, %v, %q, %v, and of z %q, %v", got, one, kept, two, text, three)
		}
	})
}

func TestLatestArgumentsStay(t *testing.T) {
	checkStay(t, func(p impl.Prog, term string) {
		impl.LatestEdges(p, term)
		impl.LatestPlace(p, term)
		impl.KeptIn(p, term)
		impl.LaterOf(p, term)
		for _, i := range []int{-1, 0, 1, 14} {
			impl.LaterOn(p, term, i)
		}
		for _, name := range []string{"A", "B", "C", "J", ""} {
			impl.LaterIn(p, term, name)
		}
	})
}

func TestLatestSharesNothing(t *testing.T) {
	for _, text := range []string{example, onceText, "A,Bx,C:AB,BB,BC", "A,BXx,Cx,D:AB,BC,CD", "A,Bx,C,D,Ex,F:AB,AC,AD,BE,CE,DE,EF", "A,Bx,Cx,D:AB,AC,BC,CB,BD,CD"} {
		checkApart(t, text, impl.LatestEdges, impl.LatestPlace)
		p, whole := withSpare(mustParse(t, text))
		kept, _ := impl.KeptIn(p, "x")
		later, _ := impl.LaterOf(p, "x")
		wantKept, wantLater := strings.Clone(kept), strings.Clone(later)
		overwrite(whole)
		if kept != wantKept || later != wantLater {
			t.Errorf("%q: %q became %q, and %q became %q", text, wantKept, kept, wantLater, later)
		}
	}
}
