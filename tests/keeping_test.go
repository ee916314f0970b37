package tests

import (
	"math/rand"
	"reflect"
	"slices"
	"strconv"
	"strings"
	"testing"

	"loop.example/onceways/impl"
)

// comesToDrop tells whether a way can go on to a block that drops, with nothing that computes, spoils or puts the term from
// its last block on until there.
func comesToDrop(p impl.Prog, term string, q impl.Place, way string) bool {
	here := way[len(way)-1:]
	if strings.Contains(q.Drops, here) {
		return true
	}
	if strings.ContainsAny(slowOps(p, here), term+strings.ToUpper(term)) {
		return false
	}
	for _, to := range nextOf(p, here) {
		if !strings.Contains(way, to) && !isPut(p, q, here, to) && comesToDrop(p, term, q, way+to) {
			return true
		}
	}
	return false
}

// slowKept returns the edges along which a term has to be kept.
func slowKept(p impl.Prog, term string, q impl.Place) []int {
	var list []int
	for i, e := range p.Edges {
		if comesToDrop(p, term, q, e.To) {
			list = append(list, i)
		}
	}
	return list
}

// keptOnRuns returns the edges behind which some runs come to a block that drops, with nothing that computes, spoils or puts
// the term in between.
func keptOnRuns(p impl.Prog, term string, q impl.Place, runs []string) []int {
	found := map[int]bool{}
	for _, run := range runs {
		needed := false
		for i := len(run) - 1; i > 0; i-- {
			from, here := run[i-1:i], run[i:i+1]
			needed = strings.Contains(q.Drops, here) || needed && !strings.ContainsAny(slowOps(p, here), term+strings.ToUpper(term))
			if needed {
				found[slices.Index(p.Edges, edge(from, here))] = true
			}
			needed = needed && !isPut(p, q, from, here)
		}
	}
	var list []int
	for i := range p.Edges {
		if found[i] {
			list = append(list, i)
		}
	}
	return list
}

// keptAlong returns along how many of some edges blocks that follow on each other lead.
func keptAlong(p impl.Prog, edges []int, part string) int {
	n := 0
	for i := 1; i < len(part); i++ {
		for _, k := range edges {
			if p.Edges[k] == edge(part[i-1:i], part[i:i+1]) {
				n++
			}
		}
	}
	return n
}

// longerBy tells how much longer a term is kept.
func longerBy(p impl.Prog, term string, q, r impl.Place) gauge {
	one, other := slowKept(p, term, q), slowKept(p, term, r)
	return func(part string) int { return keptAlong(p, one, part) - keptAlong(p, other, part) }
}

// slowLonger tells how much longer a term is kept at most, without the run.
func slowLonger(p impl.Prog, term string, q, r impl.Place) string {
	more, _, _ := strings.Cut(mostOf(p, longerBy(p, term, q, r)), " ")
	return more
}

// askedLonger returns what MostLonger tells, and holds NeverLonger against it.
func askedLonger(t *testing.T, p impl.Prog, term string, q, r impl.Place) string {
	t.Helper()
	more, bound := impl.MostLonger(p, term, q, r)
	if got := impl.NeverLonger(p, term, q, r); got != (bound && more <= 0) || !bound && more != 0 {
		t.Fatalf("%q of %q, %v and %v: MostLonger is %d, %v, and NeverLonger %v", term, impl.FormatProg(p), q, r, more, bound, got)
	}
	if !bound {
		return noGreatest
	}
	return strconv.Itoa(more)
}

// checkKept holds what is told of the edges along which a term is kept against slow answers, and returns them.
func checkKept(t *testing.T, p impl.Prog, term string, q impl.Place) []int {
	t.Helper()
	text, want := impl.FormatProg(p), slowKept(p, term, q)
	edges, ok := impl.KeptEdges(p, term, q)
	if !slices.Equal(edges, want) || !ok {
		t.Fatalf("%q of %q with %q: KeptEdges is %v, %v, instead of %v", term, text, impl.FormatPlace(p, q), edges, ok, want)
	}
	for i := -3; i < len(p.Edges)+3; i++ {
		if got := impl.KeptAt(p, term, q, i); got != slices.Contains(want, i) {
			t.Fatalf("%q of %q with %q: KeptAt(%d) is %v", term, text, impl.FormatPlace(p, q), i, got)
		}
	}
	for _, i := range edges {
		if to := p.Edges[i].To; !impl.ThereWith(p, term, q, to) {
			t.Fatalf("%q of %q with %q: it is needed at the beginning of %q, but not there", term, text, impl.FormatPlace(p, q), to)
		}
	}
	return edges
}

// checkKeptOn holds how long a term is told to be kept on some runs against the edges along which it is.
func checkKeptOn(t *testing.T, p impl.Prog, term string, q impl.Place, runs []string) {
	t.Helper()
	edges := slowKept(p, term, q)
	for _, run := range runs {
		if got := impl.KeptOn(p, term, q, run); got != keptAlong(p, edges, run) {
			t.Fatalf("KeptOn(%q, %q, %q, %q) = %d, but it is kept along %v", impl.FormatProg(p), term, impl.FormatPlace(p, q), run, got, edges)
		}
	}
}

// checkLonger holds what is told of two places against a slow answer, both ways, and returns it.
func checkLonger(t *testing.T, p impl.Prog, term string, q, r impl.Place) (string, string) {
	t.Helper()
	more, back := askedLonger(t, p, term, q, r), askedLonger(t, p, term, r, q)
	wantMore, wantBack := slowLonger(p, term, q, r), slowLonger(p, term, r, q)
	if more != wantMore || back != wantBack {
		t.Fatalf("%q of %q, %q and %q: %s and turned %s, instead of %s and %s", term, impl.FormatProg(p), impl.FormatPlace(p, q), impl.FormatPlace(p, r), more, back, wantMore, wantBack)
	}
	return more, back
}

// checkLongerOnRuns holds what is told of two places against some runs, among which are all that come to no block twice.
func checkLongerOnRuns(t *testing.T, p impl.Prog, term string, q, r impl.Place, runs []string) {
	t.Helper()
	what := strings.Join([]string{term, impl.FormatProg(p), slowPlaceText(p, q), slowPlaceText(p, r)}, " ")
	onRun := func(run string) int { return impl.KeptOn(p, term, q, run) - impl.KeptOn(p, term, r, run) }
	got := askedLonger(t, p, term, q, r)
	if got == noGreatest {
		checkRising(t, p, what, longerBy(p, term, q, r), onRun)
	} else if more, worst := worstOf(runs, onRun); got != strconv.Itoa(more) {
		t.Fatalf("%s: MostLonger is %s, but it is %d on %q", what, got, more, worst)
	}
}

// checkNoLonger holds the promise for a term: with the latest place it is kept no longer on any run of any number of blocks
// than with those of some places with which all runs compute it as often. It returns how many these are, and with how many
// of them it is kept longer on some run.
func checkNoLonger(t *testing.T, p impl.Prog, term string, others []impl.Place) (int, int) {
	t.Helper()
	q, _ := impl.LatestPlace(p, term)
	checkKept(t, p, term, q)
	same, longer := 0, 0
	for _, r := range others {
		if !impl.SameCounts(p, term, q, r) {
			continue
		}
		same++
		if more, _ := checkLonger(t, p, term, q, r); !noneMore(more) || !impl.NeverLonger(p, term, q, r) {
			t.Fatalf("%q of %q: with %q it is kept longer than with %q: %s", term, impl.FormatProg(p), impl.FormatPlace(p, q), impl.FormatPlace(p, r), more)
		}
		if !impl.NeverLonger(p, term, r, q) {
			longer++
		}
	}
	return same, longer
}

// validPlaces returns all places that are valid.
func validPlaces(p impl.Prog, term string) []impl.Place {
	return slices.DeleteFunc(allPlaces(p, term), func(q impl.Place) bool { return !impl.PlaceValid(p, term, q) })
}

// diceValid makes up a place that is valid, puts a term on few edges or on many, and drops all that it can or some of it.
func diceValid(dice *rand.Rand, p impl.Prog, term string) impl.Place {
	puts := dice.Intn(1 << len(p.Edges))
	switch dice.Intn(3) {
	case 0:
		puts &= dice.Intn(1 << len(p.Edges))
	case 1:
		puts |= dice.Intn(1 << len(p.Edges))
	}
	q, _ := impl.DropMost(p, term, indicesOf(puts))
	if dice.Intn(3) == 0 {
		q.Drops = lettersOf(q.Drops, dice.Intn(1<<len(q.Drops)))
	}
	return q
}

// edgeTexts writes edges.
func edgeTexts(p impl.Prog, edges []int) string {
	var list []string
	for _, i := range edges {
		list = append(list, p.Edges[i].From+p.Edges[i].To)
	}
	return strings.Join(list, " ")
}

func TestKeepingExample(t *testing.T) {
	p := mustParse(t, example)
	latest, earliest := mustPlace(t, p, "CD/D"), mustPlace(t, p, "AB,AC/BD")
	for _, c := range []struct {
		impl.Place
		want []int
		on   int
	}{{latest, []int{2, 3}, 1}, {earliest, []int{0, 1, 2, 3}, 2}} {
		if edges, ok := impl.KeptEdges(p, "x", c.Place); !slices.Equal(edges, c.want) || !ok {
			t.Errorf("KeptEdges with %v = %v, %v", c.Place, edges, ok)
		}
		for i := range 6 {
			if got := impl.KeptAt(p, "x", c.Place, i); got != slices.Contains(c.want, i) {
				t.Errorf("KeptAt(%v, %d) = %v", c.Place, i, got)
			}
		}
		for _, run := range []string{"ABDE", "ACDE"} {
			if got := impl.KeptOn(p, "x", c.Place, run); got != c.on {
				t.Errorf("KeptOn(%v, %q) = %d", c.Place, run, got)
			}
		}
	}
	if got := askedLonger(t, p, "x", latest, earliest); got != "-1" || !impl.NeverLonger(p, "x", latest, earliest) {
		t.Errorf("MostLonger = %s", got)
	}
	if got := askedLonger(t, p, "x", earliest, latest); got != "1" || impl.NeverLonger(p, "x", earliest, latest) {
		t.Errorf("MostLonger turned = %s", got)
	}
}

// TestKeptWrittenOut has the edges along which x is kept written out, and for how long it is kept on some runs.
func TestKeptWrittenOut(t *testing.T) {
	const (
		ways  = "A,Bx,C,Dx,Ex,F:AB,BC,CD,CE,DF,EF"
		self  = "A,Bx,C,Dx,E:AB,BC,CC,CD,DE"
		round = "A,Bx,C,D,Ex,F:AB,BC,CD,DC,DE,EF"
	)
	forty := "AB" + strings.Repeat("C", 37) + "D"
	for _, c := range []struct {
		prog, place, kept string
		on                map[string]int
	}{
		// Several ways to a block.
		{example, "CD/D", "BD CD", map[string]int{"ABDE": 1, "ACDE": 1}},
		{example, "AB,CD/BD", "AB BD CD", map[string]int{"ABDE": 2, "ACDE": 1}},
		{example, "AC/D", "AC BD CD", map[string]int{"ABDE": 1, "ACDE": 2}},
		{example, "AB/B", "AB", map[string]int{"ABDE": 1, "ACDE": 0}},
		{example, "AB,AC/D", "AC BD CD", map[string]int{"ABDE": 1, "ACDE": 2}}, // B computes first, and for D
		{ways, "-/DE", "BC CD CE", map[string]int{"ABCDF": 2, "ABCEF": 2}},
		{ways, "-/D", "BC CD", map[string]int{"ABCDF": 2, "ABCEF": 1}}, // needed on some ways alone
		{ways, "-/E", "BC CE", map[string]int{"ABCDF": 1, "ABCEF": 2}},
		{"A,Bx,C,D,Ex,F:AB,AC,AD,BE,CE,DE,EF", "CE,DE/E", "BE CE DE", map[string]int{"ABEF": 1, "ACEF": 1, "ADEF": 1}},
		{"A,Bx,C,D,Ex,F:AB,AC,AD,BE,CE,DE,EF", "AC,DE/E", "AC BE CE DE", map[string]int{"ABEF": 1, "ACEF": 2, "ADEF": 1}},
		// Put and not needed behind, and put where it is kept.
		{example, "DE/-", "", map[string]int{"ABDE": 0, "ACDE": 0}},
		{example, "AB,AC,BD,CD,DE/-", "", map[string]int{"ABDE": 0, "ACDE": 0}},
		{example, "AC,DE/D", "AC BD CD", map[string]int{"ABDE": 1, "ACDE": 2}},
		{example, "AC,CD/D", "BD CD", map[string]int{"ABDE": 1, "ACDE": 1}}, // put again ahead of where it is needed
		{example, "BD,CD/D", "BD CD", map[string]int{"ABDE": 1, "ACDE": 1}},
		{example, "AB,AC,BD,CD,DE/BD", "AB BD CD", map[string]int{"ABDE": 2, "ACDE": 1}},
		{ways, "CD/DE", "BC CD CE", map[string]int{"ABCDF": 2, "ABCEF": 2}}, // needed along the other edge alone
		{ways, "CD/D", "CD", map[string]int{"ABCDF": 1, "ABCEF": 0}},
		{ways, "CD,CE/DE", "CD CE", map[string]int{"ABCDF": 1, "ABCEF": 1}},
		{ways, "BC/DE", "BC CD CE", map[string]int{"ABCDF": 2, "ABCEF": 2}},
		{"A,Bx:AB", "AB/B", "AB", map[string]int{"AB": 1}},
		{"A,Bx:AB", "AB/-", "", map[string]int{"AB": 0}},
		{"A,B:AB", "AB/-", "", map[string]int{"AB": 0}},
		// Nothing put, or nothing dropped.
		{example, "-/-", "", map[string]int{"ABDE": 0, "ACDE": 0}},
		{example, "CD/-", "", map[string]int{"ABDE": 0, "ACDE": 0}},
		{onceText, "-/-", "", map[string]int{"ABCD": 0, forty: 0}},
		{"A,Bx,C,Dx:AB,BC,CD", "-/D", "BC CD", map[string]int{"ABCD": 2}},
		// Blocks that compute first and do not drop, and ones that do.
		{"A,Bx,Cx,D:AB,BC,CD", "-/C", "BC", map[string]int{"ABCD": 1}},
		{"A,Bx,Cx,D:AB,BC,CD", "AB/C", "BC", map[string]int{"ABCD": 1}},
		{"A,Bx,Cx,D:AB,BC,CD", "AB/B", "AB", map[string]int{"ABCD": 1}},
		{"A,Bx,Cx,D:AB,BC,CD", "AB/BC", "AB BC", map[string]int{"ABCD": 2}},
		{"A,Bx,Cx,Dx,E:AB,BC,CD,DE", "-/D", "CD", map[string]int{"ABCDE": 1}},
		{"A,Bx,Cx,Dx,E:AB,BC,CD,DE", "-/CD", "BC CD", map[string]int{"ABCDE": 2}},
		{"A,Bx,C,Dx,E,Fx,G:AB,BC,CD,DE,EF,FG", "-/F", "DE EF", map[string]int{"ABCDEFG": 2}},
		{"A,Bx,C,Dx,E,Fx,G:AB,BC,CD,DE,EF,FG", "-/DF", "BC CD DE EF", map[string]int{"ABCDEFG": 4}},
		// Blocks that spoil, also what they have computed, and ones that spoil and compute again.
		{"A,BX,Cx,D:AB,BC,CD", "BC/C", "BC", map[string]int{"ABCD": 1}},
		{"A,BX,Cx,D:AB,BC,CD", "AB,BC/C", "BC", map[string]int{"ABCD": 1}},
		{"A,BxX,Cx,D:AB,BC,CD", "AB/B", "AB", map[string]int{"ABCD": 1}},
		{"A,BxX,Cx,D:AB,BC,CD", "AB,BC/BC", "AB BC", map[string]int{"ABCD": 2}},
		{"A,BxX,Cx,D:AB,BC,CD", "AB,BC/C", "BC", map[string]int{"ABCD": 1}},
		{"A,BXx,Cx,D:AB,BC,CD", "-/C", "BC", map[string]int{"ABCD": 1}},
		{"A,BXx,Cx,D:AB,BC,CD", "AB/C", "BC", map[string]int{"ABCD": 1}},
		{"A,BXx,C,Dx,E:AB,AC,BD,CD,DE", "AC/D", "AC BD CD", map[string]int{"ABDE": 1, "ACDE": 2}},
		{"A,B,CX,Dx,E:AB,BC,BD,CD,DE", "AB,CD/D", "AB BD CD", map[string]int{"ABDE": 2, "ABCDE": 2}},
		{"A,B,CX,Dx,E:AB,BC,BD,CD,DE", "BD,CD/D", "BD CD", map[string]int{"ABDE": 1, "ABCDE": 1}},
		{"A,BxXx,Cx,D:AB,BC,CD", "-/C", "BC", map[string]int{"ABCD": 1}},
		{"A,BxXx,Cx,D:AB,BC,CD", "AB/BC", "AB BC", map[string]int{"ABCD": 2}},
		{"A,BxxXxx,C:AB,BB,BC", "AB/B", "AB BB", map[string]int{"ABC": 1, "ABBBC": 3}},
		{"A,Bx,CyY,Dx,E:AB,BC,CD,DE", "-/D", "BC CD", map[string]int{"ABCDE": 2}}, // another term
		{"A,Bx,CyXyx,Dx,E:AB,BC,CD,DE", "-/D", "CD", map[string]int{"ABCDE": 1}},
		// Loops in which it is kept.
		{onceText, "BC/C", "BC CC", map[string]int{"ABCD": 1, "ABCCCD": 3, forty: 37}},
		{onceText, "AB/C", "AB BC CC", map[string]int{"ABCD": 2, "ABCCCD": 4, forty: 38}},
		{onceText, "BC,CC/C", "BC CC", map[string]int{"ABCD": 1, "ABCCCD": 3}},
		{onceText, "AB,BC,CC,CD/C", "BC CC", map[string]int{"ABCD": 1, "ABCCCD": 3}},
		{self, "-/D", "BC CC CD", map[string]int{"ABCDE": 2, "ABCCCDE": 4}},
		{self, "CC/D", "BC CC CD", map[string]int{"ABCDE": 2, "ABCCCDE": 4}},
		{self, "CD/D", "CD", map[string]int{"ABCDE": 1, "ABCCCDE": 1}},
		{self, "BC/D", "BC CC CD", map[string]int{"ABCDE": 2, "ABCCCDE": 4}},
		{round, "-/E", "BC CD DC DE", map[string]int{"ABCDEF": 3, "ABCDCDEF": 5}},
		{round, "DC/E", "BC CD DC DE", map[string]int{"ABCDEF": 3, "ABCDCDEF": 5}},
		{round, "CD/E", "CD DE", map[string]int{"ABCDEF": 2, "ABCDCDEF": 3}},
		{round, "DE/E", "DE", map[string]int{"ABCDEF": 1, "ABCDCDEF": 1}},
		{maybeText, "AB/C", "AB BC CB", map[string]int{"ABD": 1, "ABCBD": 3, "ABCBCBD": 5}},
		{maybeText, "BC/C", "BC", map[string]int{"ABD": 0, "ABCBD": 1, "ABCBCBD": 2}},
		{maybeText, "AB,CB/C", "AB BC CB", map[string]int{"ABD": 1, "ABCBD": 3}},
		{leftText, "AB,CB,CD/C", "AB BC CB", map[string]int{"ABD": 1, "ABCD": 2, "ABCBCD": 4}},
		{"A,B,Cx,Dx,E:AB,BC,CD,DC,DE", "BC/CD", "BC CD DC", map[string]int{"ABCDE": 2, "ABCDCDE": 4}},
		{"A,B,Cx,Dx,E:AB,BC,CD,DC,DE", "-/D", "CD", map[string]int{"ABCDE": 1, "ABCDCDE": 2}},
		{"A,B,Cx,DX,E:AB,BC,CD,DC,DE", "BC,DC/C", "BC DC", map[string]int{"ABCDE": 1, "ABCDCDE": 2}},
		{"A,Bx,C,DX,Ex,F:AB,BC,CD,DC,CE,EF", "AB,DC/E", "BC DC CE", map[string]int{"ABCEF": 2, "ABCDCEF": 3}},
		// A loop along which it goes back to where it is known already.
		{"A,Bx,C,D,E,Fx,G:AB,BC,CD,DE,EC,CF,FG", "-/F", "BC CD DE EC CF", map[string]int{"ABCFG": 2, "ABCDECFG": 5}},
		{"A,Bx,C,D,E,Fx,G:AB,BC,CD,DE,EC,CF,FG", "EC/F", "BC EC CF", map[string]int{"ABCFG": 2, "ABCDECFG": 3}},
	} {
		p := mustParse(t, c.prog)
		q := mustPlace(t, p, c.place)
		if got := edgeTexts(p, checkKept(t, p, "x", q)); got != c.kept {
			t.Errorf("with %q of %q it is kept along %q", c.place, c.prog, got)
		}
		for run, want := range c.on {
			if got := impl.KeptOn(p, "x", q, run); got != want {
				t.Errorf("KeptOn %q of %q on %q = %d", c.place, c.prog, run, got)
			}
		}
		checkKeptOn(t, p, "x", q, runsOfAll(p, 8))
	}
}

// TestLongerWrittenOut has the greatest differences for x written out, and those of places turned.
func TestLongerWrittenOut(t *testing.T) {
	const (
		ways = "A,Bx,C,Dx,Ex,F:AB,BC,CD,CE,DF,EF"
		two  = "A,BxX,CxX,D:AB,BB,BC,CC,CD"
	)
	for _, c := range []struct{ prog, q, r, more, back string }{
		// Several ways to a block.
		{example, "CD/D", "AB,AC/BD", "-1", "1"},
		{example, "CD/D", "-/-", "1", "-1"},
		{example, "CD/D", "AB,CD/BD", "0", "1"},
		{example, "CD/D", "AC/D", "0", "1"},
		{example, "AC/D", "AB,CD/BD", "1", "1"},
		{example, "AB/B", "-/-", "1", "0"},
		{example, "AB/B", "CD/D", "0", "1"},
		{example, "DE/-", "-/-", "0", "0"}, // put, but not needed
		{example, "AB,AC,BD,CD,DE/-", "AB,AC/BD", "-2", "2"},
		{example, "BD,CD/D", "CD/D", "0", "0"},
		{ways, "-/DE", "-/D", "1", "0"},
		{ways, "-/D", "-/E", "1", "1"},
		{ways, "-/DE", "-/-", "2", "-2"},
		{ways, "-/D", "-/-", "2", "-1"},
		{ways, "CD,CE/DE", "-/DE", "-1", "1"},
		{"A,Bx:AB", "AB/B", "-/-", "1", "-1"},
		{"A,Bx:AB", "AB/B", "AB/-", "1", "-1"},
		{"A,B:AB", "AB/-", "-/-", "0", "0"},
		// Loops in which it is kept with one place alone.
		{onceText, "BC/C", "-/-", "none", "-1"},
		{onceText, "AB/C", "-/-", "none", "-2"},
		{onceText, "AB,BC,CC,CD/-", "BC/C", "-1", "none"},
		{maybeText, "AB/C", "-/-", "none", "-1"},
		{maybeText, "BC/C", "-/-", "none", "0"},
		{"A,Bx,C,Dx,E:AB,BC,CC,CD,DE", "-/D", "CD/D", "none", "-1"},
		{"A,Bx,C,D,Ex,F:AB,BC,CD,DC,DE,EF", "CD/E", "DE/E", "none", "-1"},
		// Loops in which it is kept longer with one of them, but with both, and as long.
		{onceText, "BC/C", "AB/C", "-1", "1"},
		{onceText, "BC,CC/C", "BC/C", "0", "0"},
		{maybeText, "AB/C", "BC/C", "none", "-1"},
		{"A,Bx,C,D,Ex,F:AB,BC,CD,DC,DE,EF", "-/E", "CD/E", "none", "-1"},
		{"A,Bx,C,D,Ex,F:AB,BC,CD,DC,DE,EF", "DC/E", "-/E", "0", "0"},
		// Two loops, in which it is kept with one place each.
		{two, "AB,BB/B", "BC,CC/C", "none", "none"},
		{two, "AB,BB/B", "AB,BB,BC,CC/BC", "-1", "none"},
		{two, "AB,BB,BC,CC/BC", "-/-", "none", "-2"},
		// A loop in which it is kept along different edges, but as many of them.
		{"A,BxX,CxX,D:AB,BC,CB,CD", "AB,CB/B", "BC/C", "0", "0"},
		{"A,BxX,CxX,D:AB,BC,CB,BD", "AB,CB/B", "BC/C", "1", "-1"},
		{"A,BxX,CxX,D:AB,BC,CB,CD", "AB,BC,CB/BC", "BC/C", "none", "-1"},
	} {
		p := mustParse(t, c.prog)
		q, r := mustPlace(t, p, c.q), mustPlace(t, p, c.r)
		if more, back := checkLonger(t, p, "x", q, r); more != c.more || back != c.back {
			t.Errorf("%q and %q of %q: %s and turned %s", c.q, c.r, c.prog, more, back)
		}
		runs := runsOfAll(p, 8)
		checkLongerOnRuns(t, p, "x", q, r, runs)
		checkLongerOnRuns(t, p, "x", r, q, runs)
	}
}

// TestLatestKeepsNoLonger has all places that are valid and wanted of some programs.
func TestLatestKeepsNoLonger(t *testing.T) {
	same, longer := 0, 0
	for _, text := range append([]string{
		maybeText, leftText, "A,B,Cx,D:AB,BC,CB,CD", "A,Bx,CXx,Dx,E:AB,BC,CD,DE,BD", "A,Bx,Cx,DX,E:AB,BC,CD,DC,DE", "A,Bx,C,Dx,E:AB,AC,BD,CD,CE,DE",
		"A,B,C,Dx,EX,F:AB,BC,CD,DC,DE,EB,EF", "A,BxX,Cx,D:AB,BB,BC,CB,CD,BD", "A,B,C,D,Ex,F:AB,BC,CD,DC,DE,EB,EF", "A,Bx,C,D,E,Fx,G:AB,AC,BF,CD,CE,DF,EF,FG",
		"A,Bx,C,Dx,Ex,F:AB,AC,BD,CD,DE,DF,EF", "A,B,Cx,Dx,E:AB,AC,BC,CD,BD,DE",
	}, placeTexts...) {
		p := mustParse(t, text)
		all := allowedPlaces(p, "x", false)
		a, b := checkNoLonger(t, p, "x", all)
		same, longer = same+a, longer+b
		q, _ := impl.LatestPlace(p, "x")
		r, _ := impl.EarliestPlace(p, "x")
		for _, place := range []impl.Place{q, r} {
			if !slices.ContainsFunc(all, func(other impl.Place) bool { return slices.Equal(other.Puts, place.Puts) && other.Drops == place.Drops }) {
				t.Fatalf("%q: %v is missing among %v", text, place, all)
			}
		}
		for _, other := range all {
			if !impl.SameCounts(p, "x", q, other) {
				continue
			}
			for _, run := range runsOfAll(p, 8) {
				if one, two := impl.KeptOn(p, "x", q, run), impl.KeptOn(p, "x", other, run); one > two || one < 0 {
					t.Fatalf("%q: on %q it is kept for %d with %v, and for %d with %v", text, run, one, q, two, other)
				}
			}
		}
	}
	if same < 50 || longer < 30 {
		t.Errorf("%d places compute as often, and with %d of them it is kept longer", same, longer)
	}
}

// TestLatestKeepsNoLongerOfAllEdges has every set of edges among a few blocks, and all places that are valid and wanted.
func TestLatestKeepsNoLongerOfAllEdges(t *testing.T) {
	words := []string{"", "", "x", "x", "x", "X", "xX", "Xx", "xXx"}
	dice := rand.New(rand.NewSource(21))
	same, longer := 0, 0
	for _, p := range smallProgs() {
		for range 2 {
			diceOps(dice, p, words)
			a, b := checkNoLonger(t, p, "x", allowedPlaces(p, "x", false))
			same, longer = same+a, longer+b
		}
	}
	if same < 500 || longer < 200 {
		t.Errorf("%d places compute as often, and with %d of them it is kept longer", same, longer)
	}
}

// halfwayPlaces returns the earliest place, and places that put a term on some of the edges to which it can be put off.
func halfwayPlaces(dice *rand.Rand, p impl.Prog, term string) []impl.Place {
	q, _ := impl.EarliestPlace(p, term)
	list := []impl.Place{q}
	for range 12 {
		puts := slices.DeleteFunc(wantedEdges(p, term), func(i int) bool {
			return !impl.LaterOn(p, term, i) || dice.Intn(2) == 0
		})
		most, _ := impl.DropMost(p, term, puts)
		for drops := range 1 << len(most.Drops) {
			list = append(list, impl.Place{Puts: puts, Drops: lettersOf(most.Drops, drops)})
		}
	}
	return list
}

// TestLatestKeepsNoLongerOfProgs has larger programs, and places of theirs to which the term is put off less.
func TestLatestKeepsNoLongerOfProgs(t *testing.T) {
	dice := rand.New(rand.NewSource(22))
	same, longer := 0, 0
	for i, p := range append(largeProgs(dice, 80), someProgs(t, 120)...) {
		if i%2 == 1 {
			diceOps(dice, p, []string{"", "", "", "x", "y", "x", "X", "xX"})
		}
		for _, term := range []string{"x", "y", "z"} {
			a, b := checkNoLonger(t, p, term, halfwayPlaces(dice, p, term))
			same, longer = same+a, longer+b
		}
	}
	if same < 500 || longer < 200 {
		t.Errorf("%d places compute as often, and with %d of them it is kept longer", same, longer)
	}
}

// TestKeepingOfAllPlaces has all places of small programs that are valid, and all pairs of them.
func TestKeepingOfAllPlaces(t *testing.T) {
	kinds := map[string]int{}
	for _, text := range []string{onceText, maybeText, example, "A,Bx:AB", "A,BxXx,C:AB,BB,BC,AC", "A,Bx,C,DX,E:AB,BC,CD,DC,DE"} {
		p := mustParse(t, text)
		all, runs := validPlaces(p, "x"), runsOfAll(p, 7)
		for i, q := range all {
			kept := checkKept(t, p, "x", q)
			checkKeptOn(t, p, "x", q, runs)
			if onRuns := keptOnRuns(p, "x", q, runs); !slices.Equal(kept, onRuns) {
				t.Fatalf("%q with %v: by runs it is kept along %v, not %v", text, q, onRuns, kept)
			}
			for k, r := range all {
				more, _ := checkLonger(t, p, "x", q, r)
				kinds[more[:1]]++
				if (i+k)%7 == 0 {
					checkLongerOnRuns(t, p, "x", q, r, runs)
				}
			}
		}
	}
	for _, kind := range []string{"n", "-", "0", "1", "2"} {
		if kinds[kind] < 100 {
			t.Errorf("%q: %d of %v", kind, kinds[kind], kinds)
		}
	}
}

// TestKeepingOfAllEdges has every set of edges among a few blocks, against all runs that are long enough to tell.
func TestKeepingOfAllEdges(t *testing.T) {
	words := []string{"", "", "x", "x", "X", "xX", "Xx", "xXx", "xxXxx"}
	dice := rand.New(rand.NewSource(23))
	kept := 0
	for _, p := range smallProgs() {
		runs := runsOfAll(p, 8)
		for range 3 {
			diceOps(dice, p, words)
			q, r := diceValid(dice, p, "x"), diceValid(dice, p, "x")
			edges := checkKept(t, p, "x", q)
			if onRuns := keptOnRuns(p, "x", q, runs); !slices.Equal(edges, onRuns) {
				t.Fatalf("%q with %v: by runs it is kept along %v, not %v", impl.FormatProg(p), q, onRuns, edges)
			}
			if len(edges) > 0 {
				kept++
			}
			checkLonger(t, p, "x", q, r)
			checkLongerOnRuns(t, p, "x", q, r, runs)
		}
	}
	if kept < 200 {
		t.Errorf("with %d places it is kept along some edge", kept)
	}
}

// TestKeepingOfProgs has larger programs.
func TestKeepingOfProgs(t *testing.T) {
	dice := rand.New(rand.NewSource(24))
	kinds := map[string]int{}
	for i, p := range append(largeProgs(dice, 80), someProgs(t, 120)...) {
		if i%2 == 1 {
			diceOps(dice, p, []string{"", "", "x", "y", "x", "x", "X", "xX"})
		}
		runs := sampleRuns(p)
		for _, term := range []string{"x", "y", "z"} {
			for range 4 {
				q, r := diceValid(dice, p, term), diceValid(dice, p, term)
				kinds["edges "+strconv.FormatBool(len(checkKept(t, p, term, q)) > 0)]++
				checkKeptOn(t, p, term, q, runs[:min(len(runs), 20)])
				more, back := checkLonger(t, p, term, q, r)
				kinds["greatest "+more[:1]]++
				for _, run := range runs[:min(len(runs), 20)] {
					n := impl.KeptOn(p, term, q, run) - impl.KeptOn(p, term, r, run)
					if most, bound := impl.MostLonger(p, term, q, r); bound && n > most || noneMore(back) && n < 0 {
						t.Fatalf("%q of %q, %v and %v: %d longer on %q, but MostLonger is %s, turned %s", term, impl.FormatProg(p), q, r, n, run, more, back)
					}
				}
			}
		}
	}
	for _, kind := range []string{"edges true", "edges false", "greatest n", "greatest -", "greatest 0", "greatest 1", "greatest 2"} {
		if kinds[kind] < 10 {
			t.Errorf("%q: %d of %v", kind, kinds[kind], kinds)
		}
	}
}

// TestKeepingOfAllWords has a block with all words of a few letters between a block that computes and one that drops, and on
// a way between them.
func TestKeepingOfAllWords(t *testing.T) {
	for _, word := range append(allWords("xX", 4), allWords("xXyY", 3)...) {
		for _, text := range []string{"A,B%,C:AB,BB,BC", "A,Bx,C%,Dx:AB,BC,CD", "A,Bx,C%,Dx,E:AB,BC,BD,CD,DC,DE"} {
			p := mustParse(t, strings.Replace(text, "%", word, 1))
			for _, term := range []string{"x", "y"} {
				for set := range 1 << len(p.Edges) {
					q, _ := impl.DropMost(p, term, indicesOf(set))
					checkKept(t, p, term, q)
				}
			}
		}
	}
}

// TestAPlaceKeptAgainstItself has the same place on both sides, also in loops in which the term is kept.
func TestAPlaceKeptAgainstItself(t *testing.T) {
	dice := rand.New(rand.NewSource(25))
	for _, p := range someProgs(t, 60) {
		for _, term := range []string{"x", "y", "z"} {
			latest, _ := impl.LatestPlace(p, term)
			for _, q := range []impl.Place{latest, diceValid(dice, p, term), {}} {
				for _, r := range []impl.Place{q, {Puts: slices.Clone(q.Puts), Drops: strings.Clone(q.Drops)}} {
					if got := askedLonger(t, p, term, q, r); got != "0" || !impl.NeverLonger(p, term, q, r) {
						t.Fatalf("%q of %q, %v twice: %s", term, impl.FormatProg(p), q, got)
					}
				}
			}
		}
	}
}

// TestKeptWithoutEdgesAndBlocks has places that put and drop nothing, and ones that drop nothing, along no edge of which the
// term is kept.
func TestKeptWithoutEdgesAndBlocks(t *testing.T) {
	dice := rand.New(rand.NewSource(26))
	for _, p := range someProgs(t, 60) {
		shortest, _ := impl.ShortestRun(p)
		for _, term := range []string{"x", "y", "z"} {
			q := diceValid(dice, p, term)
			for _, none := range []impl.Place{{}, {Puts: []int{}}, {Puts: q.Puts}} {
				if kept := checkKept(t, p, term, none); len(kept) != 0 {
					t.Fatalf("%q of %q with %v is kept along %v", term, impl.FormatProg(p), none, kept)
				}
				if got := impl.KeptOn(p, term, none, shortest); got != 0 {
					t.Fatalf("%q of %q with %v is kept for %d", term, impl.FormatProg(p), none, got)
				}
				if !impl.NeverLonger(p, term, none, q) || askedLonger(t, p, term, none, impl.Place{}) != "0" {
					t.Fatalf("%q of %q is kept longer with %v than with %v", term, impl.FormatProg(p), none, q)
				}
				checkLonger(t, p, term, q, none)
			}
		}
	}
}

// TestKeptOnRunsOfAnyNumberOfBlocks has two places that keep a term in the same loop of seven blocks, the one along one edge
// more: with it the term is kept no longer on any run of fewer than forty blocks, since the other one keeps it along four
// edges that are gone along once.
func TestKeptOnRunsOfAnyNumberOfBlocks(t *testing.T) {
	p := mustParse(t, "A,BxX,CxX,DxX,ExX,FxX,GxX,HxX,Ix:AB,BC,CD,DE,EF,FG,GH,HB,DI")
	q, r := mustPlace(t, p, "DE,EF,FG,GH/EFGH"), mustPlace(t, p, "AB,BC,CD,HB,DI/BCDI")
	if one, other := edgeTexts(p, checkKept(t, p, "x", q)), edgeTexts(p, checkKept(t, p, "x", r)); one != "DE EF FG GH" || other != "AB BC CD HB DI" {
		t.Fatalf("kept along %q and %q", one, other)
	}
	for n := range 6 {
		run := "ABCD" + strings.Repeat("EFGHBCD", n) + "I"
		if got := impl.KeptOn(p, "x", q, run) - impl.KeptOn(p, "x", r, run); got != n-4 || got > 0 && len(run) < impl.MaxRun {
			t.Errorf("%d longer on %q", got, run)
		}
	}
	if more, back := checkLonger(t, p, "x", q, r); more != noGreatest || back != "4" {
		t.Errorf("%s, and turned %s", more, back)
	}
}

// TestLongestKeeping has as many blocks and edges as there may be: a place that puts the term on all of them, and the earliest
// one, with which it is kept along all of them, each against a place with which it is kept along none.
func TestLongestKeeping(t *testing.T) {
	for _, c := range []struct{ prog, all, allBack, earliest, earliestBack string }{
		{"A,BxX,CxX,DxX,ExX,FxX,GxX,HxX,IxX:AB,BC,CD,DE,EF,FG,GH,HI", "8", "-8", "8", "-8"},
		{"A,BxX,CxX,DxX,ExX,FxX,GxX,HxX,IxX:AB,BC,CD,DE,EF,FG,GH,HI,AC,BD,CE,DF,EG,FH", "8", "-5", "8", "-5"},
		{"I,HxX,GxX,FxX,ExX,DxX,CxX,BxX,AxX:IH,HG,GF,FE,ED,DC,CB,BA,IG,HF,GE,FD,EC,DB", "8", "-5", "8", "-5"},
		{"A,Bx,Cx,Dx,Ex,Fx,Gx,Hx,Ix:AB,BC,CD,DE,EF,FG,GH,HI,BB,CC,DD,EE,FF,GG", noGreatest, "-8", noGreatest, "-8"},
		{"A,Bx,Cx,Dx,Ex,Fx,Gx,Hx,Ix:AB,BC,CD,DE,EF,FG,GH,HI,HG,HF,HE,HD,HC,HB", noGreatest, "-8", noGreatest, "-8"},
		{"A,B,C,D,E,F,G,H,Ix:AB,BC,CD,DE,EF,FG,GH,HI,HG,HF,HE,HD,HC,HB", "1", "-1", noGreatest, "-8"},
		{"A,B,C,D,E,F,G,H,Ix:AB,BC,CD,DE,EF,FG,GH,HI,BB,CC,DD,EE,FF,GG", "1", "-1", noGreatest, "-8"},
	} {
		p := mustParse(t, c.prog)
		q := impl.Place{Puts: indicesOf(1<<len(p.Edges) - 1), Drops: firstIn(p, "x")}
		r, _ := impl.EarliestPlace(p, "x")
		if got := checkKept(t, p, "x", r); len(got) != len(p.Edges) {
			t.Errorf("%q: with %v it is kept along %v", c.prog, r, got)
		}
		checkKept(t, p, "x", q)
		if more, back := checkLonger(t, p, "x", q, impl.Place{}); more != c.all || back != c.allBack {
			t.Errorf("%q with %v: %s and %s", c.prog, q, more, back)
		}
		if more, back := checkLonger(t, p, "x", r, impl.Place{}); more != c.earliest || back != c.earliestBack {
			t.Errorf("%q with %v: %s and %s", c.prog, r, more, back)
		}
		checkNoLonger(t, p, "x", []impl.Place{q, r, {}})
	}
}

// TestKeptOnFortyBlocks has runs with as many blocks as can be told, and with more.
func TestKeptOnFortyBlocks(t *testing.T) {
	p := mustParse(t, onceText)
	for text, more := range map[string]int{"BC/C": 0, "AB/C": 1, "BC,CC/C": 0} {
		q := mustPlace(t, p, text)
		for n := 1; n <= 37; n++ {
			if got := impl.KeptOn(p, "x", q, "AB"+strings.Repeat("C", n)+"D"); got != n+more {
				t.Errorf("KeptOn with %q and %d times around = %d", text, n, got)
			}
		}
		for _, n := range []int{38, 39, 1000000} {
			if got := impl.KeptOn(p, "x", q, "AB"+strings.Repeat("C", n)+"D"); got != -1 {
				t.Errorf("KeptOn with %q and %d times around = %d", text, n, got)
			}
		}
	}
}

// TestKeepingOfTermsApart has terms that are kept along different edges.
func TestKeepingOfTermsApart(t *testing.T) {
	p := mustParse(t, "A,Bx,CzX,Dxyz,E:AB,AC,BD,CD,DE")
	for _, c := range []struct{ term, place, kept string }{
		{"x", "CD/D", "BD CD"},
		{"y", "BD,CD/D", "BD CD"},
		{"y", "AB,AC/D", "AB AC BD CD"},
		{"z", "BD/D", "BD CD"},
		{"z", "AB/D", "AB BD CD"},
	} {
		if got := edgeTexts(p, checkKept(t, p, c.term, mustPlace(t, p, c.place))); got != c.kept {
			t.Errorf("%q with %q is kept along %q", c.term, c.place, got)
		}
	}
	// A place that is valid for one of them alone.
	for _, term := range []string{"y", "z"} {
		noKeeping(t, p, term, mustPlace(t, p, "CD/D"), impl.Place{})
	}
}

// TestKeptInOrder has names and edges that are in no order.
func TestKeptInOrder(t *testing.T) {
	for _, c := range []struct {
		prog, place string
		want        []int
	}{
		{"I,Dx,Gx,Bx,Ax,CX,H:ID,DG,GB,BA,AC,CH,IA,IB", "IA,IB/GBA", []int{1, 2, 3, 6, 7}},
		{"I,Dx,Gx,Bx,Ax,CX,H:CH,IB,AC,IA,BA,GB,DG,ID", "IB,IA/GBA", []int{1, 3, 4, 5, 6}},
		{"E,Dx,C,Bx,A:BA,DB,ED,CB,EC", "CB/B", []int{1, 3}},
		{"E,Bx,C,Dx,A:DA,CD,BD,EC,EB", "EC,EB/BD", []int{1, 2, 3, 4}},
	} {
		p := mustParse(t, c.prog)
		if got := checkKept(t, p, "x", mustPlace(t, p, c.place)); !slices.Equal(got, c.want) {
			t.Errorf("with %q of %q it is kept along %v", c.place, c.prog, got)
		}
	}
	dice := rand.New(rand.NewSource(27))
	for _, p := range someProgs(t, 40) {
		turned := copyOf(p)
		slices.Reverse(turned.Edges)
		for _, term := range []string{"x", "y", "z"} {
			q, r := diceValid(dice, p, term), diceValid(dice, p, term)
			kept, _ := impl.KeptEdges(p, term, q)
			got, ok := impl.KeptEdges(turned, term, turnedPlace(p, q))
			if want := turnedPlace(p, impl.Place{Puts: kept}).Puts; !slices.Equal(got, want) || !ok {
				t.Fatalf("%q of %q turned with %v is kept along %v, not %v", term, impl.FormatProg(p), q, got, want)
			}
			if one, two := askedLonger(t, p, term, q, r), askedLonger(t, turned, term, turnedPlace(p, q), turnedPlace(p, r)); one != two {
				t.Fatalf("%q of %q, %v and %v: %s, and turned %s", term, impl.FormatProg(p), q, r, one, two)
			}
		}
	}
}

// TestKeepingOfOtherProgs has programs that differ in terms or in what is computed again in a block.
func TestKeepingOfOtherProgs(t *testing.T) {
	dice := rand.New(rand.NewSource(28))
	for _, p := range someProgs(t, 60) {
		tidy, _ := impl.Tidy(p)
		run, _ := impl.ShortestRun(p)
		for _, pair := range []string{"xy", "yz", "zx", "xx"} {
			one, two := pair[:1], pair[1:]
			swapped, _ := impl.SwapTerms(p, one, two)
			q, r := diceValid(dice, p, one), diceValid(dice, p, one)
			want, _ := impl.KeptEdges(p, one, q)
			a, _ := impl.KeptEdges(swapped, two, q)
			if b, _ := impl.KeptEdges(tidy, one, q); !slices.Equal(a, want) || !slices.Equal(b, want) {
				t.Fatalf("%q of %q with %v: %v, swapped %v, tidy %v", one, impl.FormatProg(p), q, want, a, b)
			}
			on := impl.KeptOn(p, one, q, run)
			if c, d := impl.KeptOn(swapped, two, q, run), impl.KeptOn(tidy, one, q, run); c != on || d != on || on < 0 {
				t.Fatalf("%q of %q with %v: for %d, swapped %d, tidy %d", one, impl.FormatProg(p), q, on, c, d)
			}
			more := askedLonger(t, p, one, q, r)
			if e, f := askedLonger(t, swapped, two, q, r), askedLonger(t, tidy, one, q, r); e != more || f != more {
				t.Fatalf("%q of %q, %v and %v: %s, swapped %s, tidy %s", one, impl.FormatProg(p), q, r, more, e, f)
			}
		}
	}
}

// noKeeping holds the answers for a place that is not valid, alone and against others, on either side.
func noKeeping(t *testing.T, p impl.Prog, term string, bad impl.Place, others ...impl.Place) {
	t.Helper()
	if edges, ok := impl.KeptEdges(p, term, bad); len(edges) != 0 || ok {
		t.Errorf("%.20q, %s: KeptEdges is %v, %v", term, brief(bad), edges, ok)
	}
	for _, i := range []int{-1, 0, 1, 2, 3, 4, 14} {
		if impl.KeptAt(p, term, bad, i) {
			t.Errorf("%.20q, %s: KeptAt(%d)", term, brief(bad), i)
		}
	}
	for _, run := range []string{"ABDE", "ACDE", "ABC", "AB", ""} {
		if got := impl.KeptOn(p, term, bad, run); got != -1 {
			t.Errorf("%.20q, %s: KeptOn(%q) = %d", term, brief(bad), run, got)
		}
	}
	for _, q := range append(others, bad) {
		a, one := impl.MostLonger(p, term, bad, q)
		b, two := impl.MostLonger(p, term, q, bad)
		if a != 0 || one || b != 0 || two || impl.NeverLonger(p, term, bad, q) || impl.NeverLonger(p, term, q, bad) {
			t.Errorf("%.20q, %s and %s: MostLonger is %d, %v, turned %d, %v", term, brief(bad), brief(q), a, one, b, two)
		}
	}
}

// TestKeepingOfPlacesNotValid has places that are shaped, but drop what is not there.
func TestKeepingOfPlacesNotValid(t *testing.T) {
	good := map[string][]string{
		example:                      {"-/-", "CD/D", "AB,AC/BD", "DE/-"},
		onceText:                     {"-/-", "BC/C", "AB/C"},
		"A,B,Cx,Dx,E:AB,BC,CD,DC,DE": {"-/D", "BC/CD"},
		"A,BX,Cx,D:AB,BC,CD":         {"-/-", "BC/C"},
	}
	for text, bad := range map[string][]string{
		example:                      {"-/D", "-/B", "-/BD", "BD/D", "DE/D", "AB/D", "CD/B", "CD/BD", "AB/BD"},
		onceText:                     {"-/C", "CC/C", "CD/C"},
		"A,B,Cx,Dx,E:AB,BC,CD,DC,DE": {"-/CD", "-/C", "CD/C", "DC/CD", "DE/CD"},
		"A,BX,Cx,D:AB,BC,CD":         {"-/C", "AB/C", "CD/C"},
	} {
		p := mustParse(t, text)
		var others []impl.Place
		for _, place := range good[text] {
			others = append(others, mustPlace(t, p, place))
			checkKept(t, p, "x", others[len(others)-1])
		}
		for _, place := range bad {
			q := mustPlace(t, p, place)
			if !impl.PlaceShaped(p, "x", q) || impl.PlaceValid(p, "x", q) {
				t.Errorf("%q of %q is shaped %v, valid %v", place, text, impl.PlaceShaped(p, "x", q), impl.PlaceValid(p, "x", q))
			}
			noKeeping(t, p, "x", q, others...)
		}
	}
	dice := rand.New(rand.NewSource(29))
	bad := 0
	for _, p := range someProgs(t, 60) {
		for _, term := range []string{"x", "y", "z"} {
			if q := dicePlace(dice, p, term); strings.Trim(q.Drops, slowThere(p, term, q)) != "" {
				bad++
				noKeeping(t, p, term, q, diceValid(dice, p, term), impl.Place{})
			}
		}
	}
	if bad < 40 {
		t.Errorf("%d places are not valid", bad)
	}
}

func TestKeepingOfPlacesNotShaped(t *testing.T) {
	p := mustParse(t, example)
	good := []impl.Place{{}, mustPlace(t, p, "CD/D"), mustPlace(t, p, "AB,AC/BD")}
	for _, puts := range [][]int{{-1}, {5}, {-1, 0}, {3, 5}, {0, 0}, {3, 3}, {3, 1}, {1, 0}, {0, 2, 1}, {0, 1, 2, 3, 4, 5}, {3 + 1<<32}, {3 - 1<<32}, make([]int, 100000)} {
		for _, drops := range []string{"", "D", "BD"} {
			noKeeping(t, p, "x", impl.Place{Puts: puts, Drops: drops}, good...)
		}
	}
	for _, drops := range []string{"A", "C", "E", "J", "d", "x", "-", "DB", "DD", "BDB", "B,D", "D ", "\x00", "é", strings.Repeat("D", 100000)} {
		for _, puts := range [][]int{nil, {3}, {0, 1}, {0, 1, 2, 3, 4}} {
			noKeeping(t, p, "x", impl.Place{Puts: puts, Drops: drops}, good...)
		}
	}
	// Blocks that compute another term.
	for _, term := range []string{"y", "z"} {
		noKeeping(t, p, term, impl.Place{Puts: []int{0, 1}, Drops: "D"}, impl.Place{}, impl.Place{Puts: []int{0}})
	}
}

// noKeepingOfAny has the answers for programs that are not valid and words that are no term, with any place.
func noKeepingOfAny(t *testing.T, p impl.Prog, term string) {
	t.Helper()
	for _, q := range []impl.Place{{}, {Puts: []int{0}}, {Puts: []int{0}, Drops: "B"}, {Puts: []int{0, 1}, Drops: "BD"}, {Drops: "B"}, {Puts: []int{-1}}} {
		noKeeping(t, p, term, q, impl.Place{}, impl.Place{Puts: []int{0}})
	}
}

func TestKeepingOfNoTerm(t *testing.T) { checkNoTerm(t, noKeepingOfAny) }

func TestKeepingOfProgsThatAreNotValid(t *testing.T) { checkBadProgs(t, noKeepingOfAny) }

// TestKeptAtNoEdge has places with which the term is kept along all edges, or along as many as can be.
func TestKeptAtNoEdge(t *testing.T) {
	checkNoEdge(t, func(p impl.Prog, term string, i int) bool {
		q, _ := impl.DropMost(p, term, indicesOf(1<<len(p.Edges)-1))
		r, _ := impl.EarliestPlace(p, term)
		return impl.KeptAt(p, term, q, i) || impl.KeptAt(p, term, r, i)
	})
}

func TestKeptOnNoRun(t *testing.T) {
	p := mustParse(t, example)
	for _, run := range notRuns {
		for _, text := range []string{"-/-", "CD/D", "AB,AC/BD", "-/D"} {
			for _, term := range []string{"x", "y", "w"} {
				if got := impl.KeptOn(p, term, mustPlace(t, p, text), run); got != -1 {
					t.Errorf("KeptOn(%q, %q, %.40q) = %d", term, text, run, got)
				}
			}
		}
	}
}

// TestKeepingAskedAtOnce asks again and from several goroutines, which get the same answers.
func TestKeepingAskedAtOnce(t *testing.T) {
	p := mustParse(t, "A,Bx,C,D,Ex,Fx,G:AB,AC,BC,CD,DC,DE,DF,EG,FG")
	q, r := mustPlace(t, p, "AC/EF"), mustPlace(t, p, "DE,DF/EF")
	want := checkKept(t, p, "x", q)
	if edgeTexts(p, want) != "AC BC CD DC DE DF" {
		t.Fatalf("%v", want)
	}
	atOnce(func() {
		edges, ok := impl.KeptEdges(p, "x", q)
		more, bound := impl.MostLonger(p, "x", q, r)
		back, backBound := impl.MostLonger(p, "x", r, q)
		on := impl.KeptOn(p, "x", q, "ACDCDEG")
		if !slices.Equal(edges, want) || !ok || more != 0 || bound || back != -2 || !backBound || on != 5 || !impl.KeptAt(p, "x", q, 4) || impl.NeverLonger(p, "x", q, r) {
			t.Errorf("%v, %v, %d, %v, turned %d, %v, for %d", edges, ok, more, bound, back, backBound, on)
		}
	})
}

// TestKeepingArgumentsStay has places whose edges share memory, with more of it behind them.
func TestKeepingArgumentsStay(t *testing.T) {
	checkStay(t, func(p impl.Prog, term string) {
		list := []int{0, 1, 3, 4, -7, 2}
		before := slices.Clone(list)
		for n := range len(list) + 1 {
			for _, drops := range []string{"", "B", "BD", "DB", "J"} {
				q, r := impl.Place{Puts: list[:n], Drops: drops}, impl.Place{Puts: list[2:max(n, 2)], Drops: "D"}
				impl.KeptEdges(p, term, q)
				impl.KeptEdges(p, term, r)
				for _, i := range []int{-1, 0, 1, 14} {
					impl.KeptAt(p, term, q, i)
				}
				for _, run := range []string{"ABDE", "ABE", "ABCDEFGHI", "AE"} {
					impl.KeptOn(p, term, q, run)
				}
				impl.MostLonger(p, term, q, r)
				impl.NeverLonger(p, term, r, q)
			}
		}
		if !slices.Equal(list, before) {
			t.Errorf("%v became %v", before, list)
		}
	})
}

// TestKeepingSharesNothing overwrites arguments and answers, unused capacity included.
func TestKeepingSharesNothing(t *testing.T) {
	for _, c := range []struct{ prog, place string }{
		{example, "-/-"}, {example, "CD/D"}, {example, "AB,AC/BD"}, {example, "BD,CD/D"}, {onceText, "BC,CC/C"}, {"A,Bx:AB", "AB/B"}, {"A,BxX,CxX,DxX:AB,BC,CD,BB,CC", "AB,BC,CD,BB,CC/BCD"},
	} {
		p := mustParse(t, c.prog)
		q := mustPlace(t, p, c.place)
		keptWith := func(p impl.Prog, term string) ([]int, bool) { return impl.KeptEdges(p, term, q) }
		checkApart(t, c.prog, keptWith, func(p impl.Prog, term string) (impl.Place, bool) {
			edges, ok := keptWith(p, term)
			return impl.Place{Puts: edges}, ok
		})
		want := mustPlace(t, p, c.place)
		if !reflect.DeepEqual(q, want) {
			t.Errorf("%q: %v became %v", c.prog, want, q)
		}
		edges, _ := impl.KeptEdges(p, "x", q)
		kept := slices.Clone(edges)
		for i := range q.Puts[:cap(q.Puts)] {
			q.Puts[:cap(q.Puts)][i] = -9
		}
		if !slices.Equal(edges, kept) {
			t.Errorf("%q: %v became %v", c.prog, kept, edges)
		}
	}
}
