package tests

import (
	"math"
	"math/rand"
	"reflect"
	"slices"
	"strconv"
	"strings"
	"testing"

	"loop.example/onceways/impl"
)

// Programs in which places are compared: a loop that one may not enter, and one that is left by two blocks.
const (
	maybeText = "A,B,Cx,D:AB,BC,BD,CB"
	leftText  = "A,B,Cx,D:AB,BC,CB,BD,CD"
)

// A contest is what the chapter's functions tell of two places.
type contest struct {
	more, back            string
	never, same, better   bool
	neverBack, betterBack bool
}

// noGreatest stands for a difference of which none is greatest.
const noGreatest = "none"

// told writes a difference and the run that has it.
func told(more int, run string) string { return strconv.Itoa(more) + " " + run }

// askedMost returns what MostMore and WorstRun tell.
func askedMost(t *testing.T, p impl.Prog, term string, q, r impl.Place) string {
	t.Helper()
	more, bound := impl.MostMore(p, term, q, r)
	run, ok := impl.WorstRun(p, term, q, r)
	if ok != bound || !bound && (more != 0 || run != "") {
		t.Fatalf("%q of %q, %v and %v: MostMore is %d, %v, and WorstRun %q, %v", term, impl.FormatProg(p), q, r, more, bound, run, ok)
	}
	if !bound {
		return noGreatest
	}
	return told(more, run)
}

// asked returns all answers for two places.
func asked(t *testing.T, p impl.Prog, term string, q, r impl.Place) contest {
	t.Helper()
	c := contest{more: askedMost(t, p, term, q, r), back: askedMost(t, p, term, r, q)}
	c.never, c.neverBack = impl.NeverMore(p, term, q), impl.NeverMore(p, term, r)
	c.same = impl.SameCounts(p, term, q, r)
	if impl.SameCounts(p, term, r, q) != c.same {
		t.Fatalf("%q of %q: SameCounts of %v and %v is %v, and not turned", term, impl.FormatProg(p), q, r, c.same)
	}
	c.better, c.betterBack = impl.IsBetter(p, term, q, r), impl.IsBetter(p, term, r, q)
	return c
}

// A gauge tells how much more of something blocks that follow on each other have with a place than with another one.
type gauge func(part string) int

// moreBy tells how much more they compute.
func moreBy(p impl.Prog, term string, q, r impl.Place) gauge {
	return func(part string) int { return moreOn(p, term, q, r, part) }
}

// moreOn returns how much more blocks that follow on each other compute with a place than with another one, by the letters
// that are left of them.
func moreOn(p impl.Prog, term string, q, r impl.Place, part string) int {
	one, _ := goneThrough(p, term, q, part)
	other, _ := goneThrough(p, term, r, part)
	return strings.Count(one, term) - strings.Count(other, term)
}

// waysTo returns all ways that go on from a way, along one edge or more, until they come to a block, and come to none twice
// on the way.
func waysTo(p impl.Prog, way, to string) []string {
	var list []string
	for _, name := range nextOf(p, way[len(way)-1:]) {
		switch {
		case name == to:
			list = append(list, way+name)
		case !strings.Contains(way, name):
			list = append(list, waysTo(p, way+name, to)...)
		}
	}
	return list
}

// risingLoop returns a loop that makes the difference greater, from a block back to it, or nothing.
func risingLoop(p impl.Prog, more gauge) string {
	for _, b := range p.Blocks {
		for _, loop := range waysTo(p, b.Name, b.Name) {
			if more(loop) > more(b.Name) {
				return loop
			}
		}
	}
	return ""
}

// worstOf returns the greatest difference that some runs have, and the run that is told.
func worstOf(runs []string, more gauge) (int, string) {
	most, worst := math.MinInt, ""
	for _, run := range runs {
		n := more(run)
		fewer := len(run) < len(worst) || len(run) == len(worst) && run < worst
		if n > most || n == most && fewer {
			most, worst = n, run
		}
	}
	return most, worst
}

// mostOf looks at all loops and at all runs that come to no block twice: any run is one of these with loops put in.
func mostOf(p impl.Prog, more gauge) string {
	if risingLoop(p, more) != "" {
		return noGreatest
	}
	return told(worstOf(waysTo(p, p.Blocks[0].Name, p.Blocks[len(p.Blocks)-1].Name), more))
}

// slowMost tells how much more is computed at most, and on which run.
func slowMost(p impl.Prog, term string, q, r impl.Place) string {
	return mostOf(p, moreBy(p, term, q, r))
}

// noneMore tells by a greatest difference whether no run computes more.
func noneMore(most string) bool { return most != noGreatest && (most[0] == '-' || most[0] == '0') }

// slowContest returns the slow answers for two places.
func slowContest(p impl.Prog, term string, q, r impl.Place) contest {
	none := impl.Place{}
	c := contest{more: slowMost(p, term, q, r), back: slowMost(p, term, r, q)}
	c.never, c.neverBack = noneMore(slowMost(p, term, q, none)), noneMore(slowMost(p, term, r, none))
	c.same = noneMore(c.more) && noneMore(c.back)
	c.better, c.betterBack = noneMore(c.more) && !c.same, noneMore(c.back) && !c.same
	return c
}

// checkContest holds the answers for two places against the slow ones, and returns them.
func checkContest(t *testing.T, p impl.Prog, term string, q, r impl.Place) contest {
	t.Helper()
	got, want := asked(t, p, term, q, r), slowContest(p, term, q, r)
	if got != want {
		t.Fatalf("%q of %q, %v and %v:\ngot  %+v\nwant %+v", term, impl.FormatProg(p), q, r, got, want)
	}
	return got
}

// checkOnRuns holds the answers for two places against some runs, among which are all that come to no block three times.
func checkOnRuns(t *testing.T, p impl.Prog, term string, q, r impl.Place, runs []string) {
	t.Helper()
	what := strings.Join([]string{term, impl.FormatProg(p), slowPlaceText(p, q), slowPlaceText(p, r)}, " ")
	more, worst := worstOf(runs, moreBy(p, term, q, r))
	if got := askedMost(t, p, term, q, r); got == noGreatest {
		checkRising(t, p, what, moreBy(p, term, q, r), func(run string) int {
			return impl.CountWith(p, term, q, run) - impl.CountWith(p, term, r, run)
		})
	} else if got != told(more, worst) {
		t.Fatalf("%s: it is %q, but on runs %q", what, got, told(more, worst))
	}
	less, _ := worstOf(runs, moreBy(p, term, r, q))
	if same := more == 0 && less == 0; impl.SameCounts(p, term, q, r) != same {
		t.Fatalf("%s: SameCounts is %v", what, !same)
	}
	if (more > 0 || more == 0 && less == 0) && impl.IsBetter(p, term, q, r) {
		t.Fatalf("%s: IsBetter, but it computes more on a run, or less on none", what)
	}
	for _, run := range runs {
		with, once := impl.CountWith(p, term, q, run), impl.CountOnce(p, run, term)
		if gain, ok := impl.GainOn(p, term, q, run); gain != once-with || gain != moreOn(p, term, impl.Place{}, q, run) || !ok {
			t.Fatalf("%s: GainOn %q is %d, %v", what, run, gain, ok)
		}
		if with > once && impl.NeverMore(p, term, q) {
			t.Fatalf("%s: NeverMore, but on %q it computes %d instead of %d", what, run, with, once)
		}
	}
}

// checkRising goes around a loop more and more often, which makes the difference that is told of runs greater each time.
func checkRising(t *testing.T, p impl.Prog, what string, more, onRun gauge) {
	t.Helper()
	loop := risingLoop(p, more)
	if loop == "" {
		t.Fatalf("%s: no loop makes it greater", what)
	}
	head := p.Blocks[0].Name
	if loop[:1] != head {
		head = waysTo(p, head, loop[:1])[0]
	}
	tail := slowShortest(p, loop[:1])[1:]
	last := math.MinInt
	for n := 0; len(head)+n*(len(loop)-1)+len(tail) <= impl.MaxRun; n++ {
		run := head + strings.Repeat(loop[1:], n) + tail
		got := onRun(run)
		if !impl.IsRun(p, run) || got <= last {
			t.Fatalf("%s: %d on %q, not more than %d", what, got, run, last)
		}
		last = got
	}
}

func TestWaysExample(t *testing.T) {
	p := mustParse(t, example)
	q, none := mustPlace(t, p, "CD/D"), impl.Place{}
	if more, bound := impl.MostMore(p, "x", q, none); more != 0 || !bound {
		t.Errorf("MostMore = %d, %v", more, bound)
	}
	if more, bound := impl.MostMore(p, "x", none, q); more != 1 || !bound {
		t.Errorf("MostMore turned = %d, %v", more, bound)
	}
	if run, ok := impl.WorstRun(p, "x", none, q); run != "ABDE" || !ok {
		t.Errorf("WorstRun = %q, %v", run, ok)
	}
	if !impl.NeverMore(p, "x", q) || impl.SameCounts(p, "x", q, none) || !impl.IsBetter(p, "x", q, none) || impl.IsBetter(p, "x", none, q) {
		t.Errorf("NeverMore is %v, SameCounts %v, IsBetter %v, turned %v", impl.NeverMore(p, "x", q), impl.SameCounts(p, "x", q, none), impl.IsBetter(p, "x", q, none), impl.IsBetter(p, "x", none, q))
	}
	for run, want := range map[string]int{"ABDE": 1, "ACDE": 0} {
		if gain, ok := impl.GainOn(p, "x", q, run); gain != want || !ok {
			t.Errorf("GainOn %q = %d, %v", run, gain, ok)
		}
	}
}

// TestWaysWrittenOut has the answers for x written out: the greatest difference, and that with places turned, each with its
// run, and whether the first place never computes more than none, whether both compute as often, and whether it is better.
func TestWaysWrittenOut(t *testing.T) {
	for _, c := range []struct {
		prog, q, r, more, back string
		never, same, better    bool
	}{
		// Several ways to a block.
		{example, "CD/D", "-/-", "0 ACDE", "1 ABDE", true, false, true},
		{example, "AB,AC/BD", "-/-", "0 ACDE", "1 ABDE", true, false, true},
		{example, "CD/D", "AB,AC/BD", "0 ABDE", "0 ABDE", true, true, false},
		{example, "AB/B", "-/-", "0 ABDE", "0 ABDE", true, true, false},
		{example, "DE/D", "-/-", "0 ABDE", "0 ABDE", true, true, false},
		{example, "AB/-", "AC/-", "1 ABDE", "1 ACDE", false, false, false},
		{example, "-/B", "-/D", "1 ACDE", "0 ABDE", true, false, false},
		{example, "-/D", "-/B", "0 ABDE", "1 ACDE", true, false, true},
		{example, "CD/B", "-/-", "1 ACDE", "1 ABDE", false, false, false},
		{example, "DE/-", "-/-", "1 ABDE", "-1 ABDE", false, false, false},
		{example, "AB,AC,BD,CD,DE/-", "-/-", "3 ABDE", "-3 ABDE", false, false, false},
		{example, "AB,AC,BD,CD,DE/-", "-/BD", "5 ABDE", "-4 ACDE", false, false, false},
		// Less on all runs.
		{example, "-/BD", "-/-", "-1 ACDE", "2 ABDE", true, false, true},
		{example, "-/D", "-/-", "-1 ABDE", "1 ABDE", true, false, true},
		{example, "-/-", "DE/-", "-1 ABDE", "1 ABDE", true, false, true},
		{example, "CD/-", "BD,CD,DE/-", "-1 ACDE", "2 ABDE", false, false, true},
		{"A,Bx:AB", "-/B", "-/-", "-1 AB", "1 AB", true, false, true},
		{"A,Bx:AB", "-/B", "AB/-", "-2 AB", "2 AB", true, false, true},
		{"A,Bx:AB", "AB/B", "-/-", "0 AB", "0 AB", true, true, false},
		{"A,B:AB", "AB/-", "-/-", "1 AB", "-1 AB", false, false, false},
		// A loop that computes more each time, and loops that do not.
		{onceText, "CC/-", "-/-", "none", "0 ABCD", false, false, false},
		{onceText, "BC/C", "-/-", "0 ABCD", "none", true, false, true},
		{onceText, "CD/C", "-/-", "0 ABCD", "none", true, false, true},
		{onceText, "AB/C", "BC/C", "0 ABCD", "0 ABCD", true, true, false},
		{onceText, "BC,CC/C", "-/-", "0 ABCD", "0 ABCD", true, true, false},
		{onceText, "CC/C", "-/-", "-1 ABCD", "1 ABCD", true, false, true},
		{onceText, "AB/-", "-/-", "1 ABCD", "-1 ABCD", false, false, false},
		{onceText, "AB,CD/-", "BC/C", "none", "-2 ABCD", false, false, false},
		{onceText, "AB,BC/C", "CC/-", "1 ABCD", "none", false, false, false},
		{onceText, "CC/C", "BC/C", "none", "1 ABCD", true, false, false}, // less at first, and more later
		{onceText, "CC/C", "AB,BC,CD/C", "none", "3 ABCD", true, false, false},
		{onceText, "AB/C", "CC/-", "0 ABCD", "none", true, false, true},
		{onceText, "AB,BC/C", "AB,CC/-", "0 ABCD", "none", false, false, true},
		{maybeText, "AB/C", "-/-", "1 ABD", "none", false, false, false},
		{maybeText, "BC/C", "-/-", "0 ABD", "0 ABD", true, true, false},
		{maybeText, "CB/C", "-/-", "0 ABD", "0 ABD", true, true, false},
		{maybeText, "BC/-", "CB/-", "0 ABD", "0 ABD", false, true, false},
		{maybeText, "BC,CB/-", "-/-", "none", "0 ABD", false, false, false},
		{maybeText, "BC,CB/-", "-/C", "none", "0 ABD", false, false, false},
		{maybeText, "BC,CB/C", "AB/-", "none", "1 ABD", false, false, false},
		{maybeText, "BC,BD/-", "BC/-", "1 ABD", "-1 ABD", false, false, false},
		// A loop that is left by two blocks: it makes nothing greater, but the run into it does.
		{leftText, "BC/-", "CB/-", "1 ABCD", "0 ABD", false, false, false},
		{leftText, "BC/-", "BC/-", "0 ABD", "0 ABD", false, true, false},
		{leftText, "CD/C", "BD/-", "0 ABCD", "none", true, false, true},
		{leftText, "BC/C", "CD/-", "0 ABD", "1 ABCD", true, false, true},
		{leftText, "BD/C", "-/-", "1 ABD", "none", false, false, false},
		{leftText, "CD/C", "-/-", "0 ABD", "none", true, false, true},
		// Blocks that compute several times, and again in a row.
		{"A,BxXx,C:AB,BC", "-/B", "-/-", "-1 ABC", "1 ABC", true, false, true},
		{"A,BxxXxx,C:AB,BB,BC", "AB/B", "-/-", "0 ABC", "none", true, false, true},
		{"A,BxxXxx,C:AB,BB,BC", "BC/-", "AB/-", "0 ABC", "0 ABC", false, true, false},
		{"A,BxxXxx,C:AB,BB,BC", "BB/B", "-/B", "none", "0 ABC", true, false, false},
		// Two loops, of which one makes it greater and the other one smaller.
		{"A,Bx,Cx,D:AB,BB,BC,CC,CD", "CC/B", "-/-", "none", "none", false, false, false},
		{"A,Bx,Cx,D:AB,BB,BC,CC,CD", "BB,CC/BC", "-/-", "-2 ABCD", "2 ABCD", true, false, true},
		{"A,Bx,Cx,D:AB,BB,BC,CC,CD", "BB/-", "CC/-", "none", "none", false, false, false},
		{"A,Bx,Cx,D:AB,BB,BC,CC,CD", "AB,BC/B", "CC/-", "1 ABCD", "none", false, false, false},
		// Two loops that make it neither greater nor smaller alone, but one of them does by a part of the other one.
		{"A,B,C,D,E:AB,BC,CD,DB,CB,DE", "CB/-", "CD/-", "none", "none", false, false, false},
		{"A,B,C,D,E:AB,BC,CD,DB,CB,DE", "BC/-", "DB,CB/-", "1 ABCDE", "-1 ABCDE", false, false, false},
		{"A,B,C,D,E:AB,BC,CD,DB,CB,DE", "DE/-", "AB/-", "0 ABCDE", "0 ABCDE", false, true, false},
	} {
		p := mustParse(t, c.prog)
		q, r := mustPlace(t, p, c.q), mustPlace(t, p, c.r)
		got := checkContest(t, p, "x", q, r)
		if got.more != c.more || got.back != c.back || got.never != c.never || got.same != c.same || got.better != c.better {
			t.Errorf("%q and %q of %q: %+v", c.q, c.r, c.prog, got)
		}
		checkOnRuns(t, p, "x", q, r, runsOfAll(p, 9))
		checkOnRuns(t, p, "x", r, q, runsOfAll(p, 9))
	}
}

// TestFewestBlocksThenBytes has greatest differences that several runs have, in programs whose names, blocks and edges are in
// orders of their own.
func TestFewestBlocksThenBytes(t *testing.T) {
	for _, c := range []struct{ prog, q, r, want string }{
		// Runs with as many blocks.
		{orderText, "-/-", "-/-", "0 IDAH"},
		{orderText, "IG/-", "-/-", "1 IGAH"},
		{orderText, "-/-", "IG/-", "0 IDAH"},
		{orderText, "BH,CH/-", "-/-", "1 IDCH"},
		{orderText, "GB,AH/-", "-/-", "1 IDAH"},
		{orderText, "-/-", "DA/-", "0 IDCH"},
		{orderText, "IG,BH,AH,CH/-", "-/-", "2 IGAH"},
		{orderText, "-/-", "AH,CH/-", "0 IGBH"},
		{"A,C,B,D,E:AC,CD,AB,BD,DE", "AC,AB/-", "-/-", "1 ABDE"},
		{"A,C,B,D,E:AC,CD,AB,BD,DE", "CD,AB/-", "-/-", "1 ABDE"},
		{"A,C,B,D,E:AC,CD,AB,BD,DE", "AC,BD/-", "-/-", "1 ABDE"},
		{"A,C,B,D,E:AC,CD,AB,BD,DE", "AC,CD,AB/-", "-/-", "2 ACDE"},
		// One with fewer blocks, though others are ahead in the order of bytes.
		{"A,B,C,D:AB,BC,CD,AD", "-/-", "-/-", "0 AD"},
		{"A,B,C,D,E:AB,BC,CE,AD,DE", "AB,AD/-", "-/-", "1 ADE"},
		{"A,B,C,D,E:AB,BC,CE,AD,DE", "BC,AD/-", "-/-", "1 ADE"},
		{"A,B,C,D,E:AB,BC,CE,AD,DE", "BC/-", "-/-", "1 ABCE"},
		{"A,B,C,D,E:AB,BC,CE,AD,DE", "BC,CE,DE/-", "-/-", "2 ABCE"},
		{"A,B,C,D,E:AB,BC,CE,AD,DE", "-/-", "AB,DE/-", "-1 ADE"},
		{"A,Bx,Cx,Dx,E:AB,BC,CE,AD,DE", "AB/BC", "AD/-", "-1 ADE"},
		{crossText, "-/-", "-/-", "0 ABEG"},
		{crossText, "AD,AC,AB/-", "-/-", "1 ABEG"},
		{crossText, "FG,EG/-", "AB,CE/-", "1 ADEG"},
		{crossText, "AD,AC/-", "-/-", "1 ACEG"},
		{crossText, "FG/-", "-/-", "1 ABFG"},
		// Loops that change nothing are not gone around, also if they stand first in the order of bytes.
		{"A,D,B,C,E:AD,DB,BD,BC,CB,DE", "-/-", "-/-", "0 ADE"},
		{"A,D,B,C,E:AD,DB,BD,BC,CB,DE", "DB/-", "BD/-", "0 ADE"},
		{"A,D,B,C,E:AD,DB,BD,BC,CB,DE,CE", "BC/-", "CB/-", "1 ADBCE"},
		{"A,D,B,C,E:AD,DB,BD,BC,CB,DE,CE", "AD,DB/-", "BD/-", "2 ADBCE"},
		{"A,C,B,D:AC,CB,BB,CC,BC,CD", "BC/-", "CB/-", "0 ACD"},
		{manyText, "-/-", "-/-", "0 ABE"},
		{manyText, "AB,AC,AD/-", "-/-", "1 ABE"},
		{manyText, "AC/-", "-/-", "1 ACE"},
		{manyText, "AD/-", "-/-", "1 ADBE"},
	} {
		p := mustParse(t, c.prog)
		q, r := mustPlace(t, p, c.q), mustPlace(t, p, c.r)
		if got := askedMost(t, p, "x", q, r); got != c.want {
			t.Errorf("%q and %q of %q: %q instead of %q", c.q, c.r, c.prog, got, c.want)
		}
		checkContest(t, p, "x", q, r)
		// The order of edges tells nothing.
		turned := copyOf(p)
		slices.Reverse(turned.Edges)
		if got := askedMost(t, turned, "x", turnedPlace(p, q), turnedPlace(p, r)); got != c.want {
			t.Errorf("%q and %q of %q turned: %q instead of %q", c.q, c.r, c.prog, got, c.want)
		}
	}
}

// turnedPlace returns a place for the program whose edges are in the opposite order.
func turnedPlace(p impl.Prog, q impl.Place) impl.Place {
	var puts []int
	for _, i := range q.Puts {
		puts = append(puts, len(p.Edges)-1-i)
	}
	slices.Sort(puts)
	return impl.Place{Puts: puts, Drops: q.Drops}
}

// TestRunsOfAnyNumberOfBlocks has a place that computes more on runs with more blocks than can be told alone: on 44 at least,
// as the loop has five and makes up for one of six that are missing each time.
func TestRunsOfAnyNumberOfBlocks(t *testing.T) {
	p := mustParse(t, "A,Bx,Cx,D,E,F,G,H,I:AB,BC,CD,DE,EF,FG,GH,HD,HI")
	q, r := mustPlace(t, p, "HD/BC"), mustPlace(t, p, "AB,BC,CD,HI/-")
	for n := range 7 {
		run := "ABC" + strings.Repeat("DEFGH", n+1) + "I"
		if got := impl.CountWith(p, "x", q, run) - impl.CountWith(p, "x", r, run); got != n-6 || got > 0 {
			t.Fatalf("%d more on %q", got, run)
		}
	}
	got := checkContest(t, p, "x", q, r)
	if got.more != noGreatest || got.back != "6 ABCDEFGHI" || got.better || got.same || got.betterBack {
		t.Errorf("%+v", got)
	}
	// The same loop, from two missing on, is more than none on 24 blocks at least.
	if got := checkContest(t, p, "x", q, impl.Place{}); got.more != noGreatest || got.never || got.better || got.back != "2 ABCDEFGHI" {
		t.Errorf("%+v", got)
	}
	// Without it, it is never more.
	less := mustPlace(t, p, "-/BC")
	if got := checkContest(t, p, "x", less, r); got.more != "-6 ABCDEFGHI" || !got.never || !got.better {
		t.Errorf("%+v", got)
	}
}

// TestLargestDifferences has as many blocks and edges as there may be, all of which tell.
func TestLargestDifferences(t *testing.T) {
	for _, c := range []struct{ prog, want, back string }{
		{"A,Bx,Cx,Dx,Ex,Fx,Gx,Hx,Ix:AB,BC,CD,DE,EF,FG,GH,HI", "16 ABCDEFGHI", "-16 ABCDEFGHI"},
		{"A,Bx,Cx,Dx,Ex,Fx,Gx,Hx,Ix:AB,BC,CD,DE,EF,FG,GH,HI,AC,BD,CE,DF,EG,FH", "16 ABCDEFGHI", "-10 ABDFHI"},
		{"I,Hx,Gx,Fx,Ex,Dx,Cx,Bx,Ax:IH,HG,GF,FE,ED,DC,CB,BA,IG,HF,GE,FD,EC,DB", "16 IHGFEDCBA", "-10 IGECBA"},
		{"A,Bx,Cx,Dx,Ex,Fx,Gx,Hx,Ix:AB,BC,CD,DE,EF,FG,GH,HI,BB,CC,DD,EE,FF,GG", noGreatest, "-16 ABCDEFGHI"},
		{"A,Bx,Cx,Dx,Ex,Fx,Gx,Hx,Ix:AB,BC,CD,DE,EF,FG,GH,HI,HG,HF,HE,HD,HC,HB", noGreatest, "-16 ABCDEFGHI"},
	} {
		p := mustParse(t, c.prog)
		q, r := impl.Place{Puts: indicesOf(1<<len(p.Edges) - 1)}, impl.Place{Drops: firstIn(p, "x")}
		if got := checkContest(t, p, "x", q, r); got.more != c.want || got.back != c.back || got.never || !got.neverBack || got.better || !got.betterBack {
			t.Errorf("%q: %+v", c.prog, got)
		}
		// All is there that is computed, and as much is put as is dropped.
		all := impl.Place{Puts: q.Puts, Drops: r.Drops}
		if got := checkContest(t, p, "x", all, impl.Place{}); !got.same || !got.never || got.better {
			t.Errorf("%q: %+v", c.prog, got)
		}
	}
}

// TestManyWays has as many runs that come to no block twice as edges allow, with differences that make the best ones change.
func TestManyWays(t *testing.T) {
	dice := rand.New(rand.NewSource(10))
	for _, text := range []string{
		"A,Bx,Cx,Dx,Ex,Fx,Gx,H:AB,AC,BC,BD,CB,CD,DE,DF,EF,EG,FE,FG,GH,FH",
		"A,Gx,Fx,Ex,Dx,Cx,Bx,H:FH,GH,FG,FE,EG,EF,DF,DE,CD,CB,BD,BC,AC,AB",
		"A,Bx,Cx,Dx,Ex,F:AB,AC,AD,BC,BD,BE,CB,CD,CE,DB,DC,DE,EF,AE",
		"I,Dx,Gx,Bx,Ax,CX,H:ID,DG,GB,BA,AC,CH,IA,IB,GD,BG,AB,CA,DC,CD",
	} {
		p := mustParse(t, text)
		for range 150 {
			checkContest(t, p, "x", dicePlace(dice, p, "x"), dicePlace(dice, p, "x"))
		}
	}
}

// TestAllPairsOfPlaces has all pairs of places of small programs.
func TestAllPairsOfPlaces(t *testing.T) {
	for _, text := range []string{onceText, maybeText, "A,Bx:AB", "A,BxXx,C:AB,BB,BC,AC"} {
		p := mustParse(t, text)
		all, runs := allPlaces(p, "x"), runsOfAll(p, 6)
		for _, q := range all {
			for _, r := range all {
				checkContest(t, p, "x", q, r)
				checkOnRuns(t, p, "x", q, r, runs)
			}
		}
	}
	p := mustParse(t, example)
	for _, text := range []string{"-/-", "CD/D", "AB,AC/BD", "DE/-", "-/BD"} {
		for _, q := range allPlaces(p, "x") {
			checkContest(t, p, "x", q, mustPlace(t, p, text))
			checkOnRuns(t, p, "x", q, mustPlace(t, p, text), []string{"ABDE", "ACDE"})
		}
	}
}

// allPlaces returns all places that are shaped.
func allPlaces(p impl.Prog, term string) []impl.Place {
	var list []impl.Place
	first := firstIn(p, term)
	for puts := range 1 << len(p.Edges) {
		for drops := range 1 << len(first) {
			list = append(list, impl.Place{Puts: indicesOf(puts), Drops: lettersOf(first, drops)})
		}
	}
	return list
}

// TestWaysOfAllEdges has every set of edges among a few blocks, against all runs that are long enough to tell.
func TestWaysOfAllEdges(t *testing.T) {
	words := []string{"", "x", "x", "x", "X", "xX", "Xx", "xXx", "xxXxx"}
	dice := rand.New(rand.NewSource(11))
	for _, p := range smallProgs() {
		runs := runsOfAll(p, 8)
		for range 4 {
			diceOps(dice, p, words)
			q, r := dicePlace(dice, p, "x"), dicePlace(dice, p, "x")
			checkContest(t, p, "x", q, r)
			checkOnRuns(t, p, "x", q, r, runs)
		}
	}
}

// TestWaysOfProgs has pairs of places of larger programs, and sees that all kinds of answers are among them.
func TestWaysOfProgs(t *testing.T) {
	dice := rand.New(rand.NewSource(12))
	kinds := map[string]int{}
	for i, p := range someProgs(t, 120) {
		if i%2 == 1 {
			diceOps(dice, p, []string{"", "", "x", "y", "x", "x", "X", "xX"})
		}
		runs := sampleRuns(p)
		for _, term := range []string{"x", "y", "z"} {
			for range 4 {
				q, r := dicePlace(dice, p, term), dicePlace(dice, p, term)
				if dice.Intn(3) == 0 {
					q, _ = impl.DropMost(p, term, q.Puts)
				}
				c := checkContest(t, p, term, q, r)
				kinds["greatest "+c.more[:1]]++
				kinds["same "+strconv.FormatBool(c.same)]++
				kinds["better "+strconv.FormatBool(c.better)]++
				kinds["never "+strconv.FormatBool(c.never)]++
				for range 8 {
					checkMore(t, p, term, q, r, runs[dice.Intn(len(runs))])
				}
			}
		}
	}
	for _, kind := range []string{"greatest n", "greatest -", "greatest 0", "greatest 1", "greatest 2", "same true", "same false", "better true", "better false", "never true", "never false"} {
		if kinds[kind] < 20 {
			t.Errorf("%q: %d of %v", kind, kinds[kind], kinds)
		}
	}
}

// checkMore holds one run against what is told of all runs.
func checkMore(t *testing.T, p impl.Prog, term string, q, r impl.Place, run string) {
	t.Helper()
	one, other := impl.CountWith(p, term, q, run), impl.CountWith(p, term, r, run)
	more, bound := impl.MostMore(p, term, q, r)
	worst, _ := impl.WorstRun(p, term, q, r)
	if bound && (one-other > more || one-other == more && (len(run) < len(worst) || len(run) == len(worst) && run < worst)) {
		t.Fatalf("%q of %q, %v and %v: %d more on %q, but MostMore is %d on %q", term, impl.FormatProg(p), q, r, one-other, run, more, worst)
	}
	if bound && impl.CountWith(p, term, q, worst)-impl.CountWith(p, term, r, worst) != more {
		t.Fatalf("%q of %q, %v and %v: not %d more on %q", term, impl.FormatProg(p), q, r, more, worst)
	}
	gain, ok := impl.GainOn(p, term, q, run)
	if gain != impl.CountOnce(p, run, term)-one || !ok {
		t.Fatalf("GainOn(%q, %q, %v, %q) = %d, %v", impl.FormatProg(p), term, q, run, gain, ok)
	}
	if impl.NeverMore(p, term, q) && gain < 0 || impl.SameCounts(p, term, q, r) && one != other || impl.IsBetter(p, term, q, r) && one > other {
		t.Fatalf("%q of %q, %v and %v: %d and %d on %q, gain %d", term, impl.FormatProg(p), q, r, one, other, run, gain)
	}
}

// TestPlacesThatAreTheSame has a place held against itself: the shortest run is told.
func TestPlacesThatAreTheSame(t *testing.T) {
	dice := rand.New(rand.NewSource(13))
	for _, p := range someProgs(t, 60) {
		shortest, _ := impl.ShortestRun(p)
		for _, term := range []string{"x", "y", "z"} {
			q := dicePlace(dice, p, term)
			for _, r := range []impl.Place{q, {Puts: slices.Clone(q.Puts), Drops: strings.Clone(q.Drops)}} {
				if got := asked(t, p, term, q, r); got.more != told(0, shortest) || got.back != got.more || !got.same || got.better || got.betterBack {
					t.Fatalf("%q of %q, %v twice: %+v", term, impl.FormatProg(p), q, got)
				}
			}
		}
	}
}

// TestWithoutEdgesAndBlocks has the place that changes nothing on either side, as an empty slice too, and on both.
func TestWithoutEdgesAndBlocks(t *testing.T) {
	dice := rand.New(rand.NewSource(14))
	for _, p := range someProgs(t, 60) {
		shortest, _ := impl.ShortestRun(p)
		for _, term := range []string{"x", "y", "z"} {
			q := dicePlace(dice, p, term)
			for _, none := range []impl.Place{{}, {Puts: []int{}}} {
				c := checkContest(t, p, term, q, none)
				if c.never != (c.same || c.better) || !c.neverBack {
					t.Fatalf("%q of %q, %v: %+v", term, impl.FormatProg(p), q, c)
				}
				if c := checkContest(t, p, term, none, q); !c.never {
					t.Fatalf("%q of %q, %v: %+v", term, impl.FormatProg(p), q, c)
				}
				want := contest{more: told(0, shortest), back: told(0, shortest), never: true, neverBack: true, same: true}
				if got := asked(t, p, term, none, impl.Place{}); got != want {
					t.Fatalf("%q of %q: %+v", term, impl.FormatProg(p), got)
				}
				if gain, ok := impl.GainOn(p, term, none, shortest); gain != 0 || !ok {
					t.Fatalf("GainOn(%q, %q) = %d, %v", impl.FormatProg(p), term, gain, ok)
				}
			}
		}
	}
}

// TestComparedWithAThird has three places: what is told of pairs of them fits together.
func TestComparedWithAThird(t *testing.T) {
	dice := rand.New(rand.NewSource(15))
	for _, p := range someProgs(t, 60) {
		q, r, s := dicePlace(dice, p, "x"), dicePlace(dice, p, "x"), dicePlace(dice, p, "x")
		a, one := impl.MostMore(p, "x", q, r)
		b, two := impl.MostMore(p, "x", r, s)
		if c, three := impl.MostMore(p, "x", q, s); one && two && (!three || c > a+b) {
			t.Fatalf("%q, %v, %v and %v: %d, %d, but %d, %v", impl.FormatProg(p), q, r, s, a, b, c, three)
		}
		if impl.IsBetter(p, "x", q, r) && impl.IsBetter(p, "x", r, s) && !impl.IsBetter(p, "x", q, s) {
			t.Fatalf("%q: %v is better than %v, and this than %v", impl.FormatProg(p), q, r, s)
		}
		if back, four := impl.MostMore(p, "x", r, q); one && four && a+back < 0 {
			t.Fatalf("%q, %v and %v: %d, and turned %d", impl.FormatProg(p), q, r, a, back)
		}
	}
}

// TestGainOn has the gains on runs written out.
func TestGainOn(t *testing.T) {
	forty := "A" + strings.Repeat("B", 38) + "C"
	for _, c := range []struct {
		prog, place string
		gains       map[string]int
	}{
		{example, "-/-", map[string]int{"ABDE": 0, "ACDE": 0}},
		{example, "-/BD", map[string]int{"ABDE": 2, "ACDE": 1}},
		{example, "CD/D", map[string]int{"ABDE": 1, "ACDE": 0}},
		{example, "DE/-", map[string]int{"ABDE": -1, "ACDE": -1}},
		{example, "AB,AC,BD,CD,DE/-", map[string]int{"ABDE": -3, "ACDE": -3}},
		{onceText, "BC/C", map[string]int{"ABCD": 0, "ABCCD": 1, "ABCCCD": 2, "AB" + strings.Repeat("C", 37) + "D": 36}},
		{onceText, "CC/-", map[string]int{"ABCD": 0, "ABCCD": -1, "AB" + strings.Repeat("C", 37) + "D": -36}},
		{maybeText, "AB/C", map[string]int{"ABD": -1, "ABCBD": 0, "ABCBCBD": 1}},
		{"A,BxXx,C:AB,BB,BC", "-/B", map[string]int{"ABC": 1, "ABBC": 2, forty: 38}},
		{"A,BxxXxx,C:AB,BB,BC", "-/B", map[string]int{"ABC": 1, "ABBC": 2, forty: 38}},
		{"A,BxxXxx,C:AB,BB,BC", "AB,BB,BC/B", map[string]int{"ABC": -1, forty: -1}},
		{"A,BxxXxx,C:AB,BB,BC", "AB,BB,BC/-", map[string]int{"ABC": -2, forty: -39}},
	} {
		p := mustParse(t, c.prog)
		for run, want := range c.gains {
			if got, ok := impl.GainOn(p, "x", mustPlace(t, p, c.place), run); got != want || !ok {
				t.Errorf("GainOn %q of %q on %q = %d, %v", c.place, c.prog, run, got, ok)
			}
		}
	}
}

// noGain holds the answer of GainOn where there is none.
func noGain(t *testing.T, p impl.Prog, term string, q impl.Place, run string) {
	t.Helper()
	if gain, ok := impl.GainOn(p, term, q, run); gain != 0 || ok {
		t.Errorf("GainOn(%.20q, %s, %.40q) = %d, %v", term, brief(q), run, gain, ok)
	}
}

func TestGainOnNoRun(t *testing.T) {
	p := mustParse(t, example)
	for _, run := range notRuns {
		for _, text := range []string{"-/-", "CD/D", "AB,AC/BD"} {
			for _, term := range []string{"x", "y", "w"} {
				noGain(t, p, term, mustPlace(t, p, text), run)
			}
		}
	}
	self := mustParse(t, "A,Bx,C:AB,BB,BC")
	for _, n := range []int{39, 40, 1000000} {
		noGain(t, self, "x", impl.Place{Puts: []int{1}}, "A"+strings.Repeat("B", n)+"C")
	}
}

// noContest holds the answers for two places of which one is not shaped.
func noContest(t *testing.T, p impl.Prog, term string, q, r impl.Place) {
	t.Helper()
	more, one := impl.MostMore(p, term, q, r)
	run, two := impl.WorstRun(p, term, q, r)
	same, better := impl.SameCounts(p, term, q, r), impl.IsBetter(p, term, q, r)
	if more != 0 || one || run != "" || two || same || better {
		t.Errorf("%.20q, %s and %s: %d %v, %q %v, same %v, better %v", term, brief(q), brief(r), more, one, run, two, same, better)
	}
}

// noWays holds the answers for a place that is not shaped, on either side and on both.
func noWays(t *testing.T, p impl.Prog, term string, bad impl.Place, others ...impl.Place) {
	t.Helper()
	for _, q := range append(others, bad) {
		noContest(t, p, term, bad, q)
		noContest(t, p, term, q, bad)
	}
	if impl.NeverMore(p, term, bad) {
		t.Errorf("NeverMore(%.20q, %s)", term, brief(bad))
	}
	for _, run := range []string{"ABDE", "ACDE", "ABC", "AB", ""} {
		noGain(t, p, term, bad, run)
	}
}

func TestWaysOfPlacesNotShaped(t *testing.T) {
	p := mustParse(t, example)
	good := []impl.Place{{}, mustPlace(t, p, "CD/D"), mustPlace(t, p, "AB,AC/BD"), mustPlace(t, p, "DE/-")}
	for _, q := range good {
		if !impl.PlaceShaped(p, "x", q) || !impl.SameCounts(p, "x", q, q) {
			t.Errorf("%v is not shaped, or not the same as itself", q)
		}
	}
	for _, puts := range [][]int{{-1}, {5}, {-1, 0}, {4, 5}, {0, 0}, {3, 3}, {1, 0}, {0, 2, 1}, {0, 1, 2, 3, 4, 5}, {math.MaxInt}, {math.MinInt}, {3 + 1<<32}, make([]int, 100000)} {
		for _, drops := range []string{"", "D", "BD"} {
			noWays(t, p, "x", impl.Place{Puts: puts, Drops: drops}, good...)
		}
	}
	for _, drops := range []string{"A", "C", "E", "J", "b", "x", "-", "DB", "BB", "BDB", "B,D", "B ", "\x00", "é", strings.Repeat("B", 100000)} {
		for _, puts := range [][]int{nil, {0}, {0, 1, 2, 3, 4}} {
			noWays(t, p, "x", impl.Place{Puts: puts, Drops: drops}, good...)
		}
	}
	// Blocks that compute another term.
	for _, term := range []string{"y", "z"} {
		noWays(t, p, term, impl.Place{Puts: []int{0}, Drops: "B"}, impl.Place{}, impl.Place{Puts: []int{0}})
	}
	// A place that is not valid is shaped all the same.
	if got, ok := impl.MostMore(p, "x", mustPlace(t, p, "-/BD"), impl.Place{}); impl.PlaceValid(p, "x", mustPlace(t, p, "-/BD")) || got != -1 || !ok {
		t.Errorf("MostMore of a place that is not valid = %d, %v", got, ok)
	}
}

func TestWaysOfNoTerm(t *testing.T) {
	p := mustParse(t, "A,BxyzXYZ,C,Dxyz,E:AB,AC,BD,CD,DE")
	for _, term := range notTerms {
		for _, q := range []impl.Place{{}, {Puts: []int{0, 1}}, {Puts: []int{0}, Drops: "B"}, {Drops: "BD"}} {
			noWays(t, p, term, q, impl.Place{}, impl.Place{Puts: []int{4}})
		}
	}
}

func TestWaysOfProgsThatAreNotValid(t *testing.T) {
	for what, p := range badProgs() {
		before := t.Failed()
		for _, q := range []impl.Place{{}, {Puts: []int{0}}, {Drops: "B"}, {Puts: []int{0, 1}, Drops: "B"}, {Puts: []int{-1}}} {
			for _, term := range []string{"x", "y", "X", ""} {
				noWays(t, p, term, q, impl.Place{}, impl.Place{Puts: []int{0}})
			}
		}
		if t.Failed() && !before {
			t.Errorf("it is %s", what)
		}
	}
}

// TestWaysOfOtherProgs has programs that differ in terms or in what is computed again in a block.
func TestWaysOfOtherProgs(t *testing.T) {
	dice := rand.New(rand.NewSource(16))
	for _, p := range someProgs(t, 40) {
		tidy, _ := impl.Tidy(p)
		for _, pair := range []string{"xy", "yz", "zx", "xx"} {
			one, two := pair[:1], pair[1:]
			swapped, _ := impl.SwapTerms(p, one, two)
			q, r := dicePlace(dice, p, one), dicePlace(dice, p, one)
			want := asked(t, p, one, q, r)
			if a, b := asked(t, swapped, two, q, r), asked(t, tidy, one, q, r); a != want || b != want {
				t.Fatalf("%q of %q, %v and %v: %+v, swapped %+v, tidy %+v", one, impl.FormatProg(p), q, r, want, a, b)
			}
		}
	}
}

// TestWaysAskedAtOnce asks again and from several goroutines, which get the same answers.
func TestWaysAskedAtOnce(t *testing.T) {
	p := mustParse(t, manyText)
	q, r := impl.Place{Puts: []int{0, 2, 5, 9}, Drops: "B"}, impl.Place{Puts: []int{1, 2, 5}, Drops: "D"}
	want := slowContest(p, "x", q, r)
	atOnce(func() {
		more, _ := impl.MostMore(p, "x", q, r)
		run, ok := impl.WorstRun(p, "x", q, r)
		if got := told(more, run); ok && got != want.more || ok != (want.more != noGreatest) {
			t.Errorf("%q, %v instead of %q", got, ok, want.more)
		}
		if impl.SameCounts(p, "x", q, r) != want.same || impl.IsBetter(p, "x", q, r) != want.better || impl.NeverMore(p, "x", q) != want.never {
			t.Errorf("not %+v", want)
		}
	})
}

// TestWaysArgumentsStay has places whose edges share memory, with more of it behind them, and answers that stay when all of it
// is overwritten.
func TestWaysArgumentsStay(t *testing.T) {
	for _, prog := range []impl.Prog{mustParse(t, example), mustParse(t, fullText), mustParse(t, manyText), build(blocks("A", "Bx", "C"), "AB", "BC", "BA")} {
		p, whole := withSpare(prog)
		before := copyOf(whole)
		list := []int{0, 1, 3, 4, -7, 2}
		runs := []string{"told"}
		for n := range len(list) + 1 {
			for _, drops := range []string{"", "B", "BD", "DB", "J"} {
				q, r := impl.Place{Puts: list[:n], Drops: drops}, impl.Place{Puts: list[n:], Drops: "B"}
				for _, other := range []impl.Place{{}, r, q, {Puts: list[1:3]}} {
					for _, term := range []string{"x", "y", "w"} {
						askedMost(t, p, term, q, other)
						impl.NeverMore(p, term, q)
						impl.SameCounts(p, term, q, other)
						impl.IsBetter(p, term, q, other)
						impl.GainOn(p, term, q, "ABDE")
						impl.GainOn(p, term, q, "AE")
						run, _ := impl.WorstRun(p, term, q, other)
						runs = append(runs, run)
					}
				}
			}
		}
		if !reflect.DeepEqual(whole, before) || !slices.Equal(list, []int{0, 1, 3, 4, -7, 2}) {
			t.Errorf("%v became %v, or the list %v", before, whole, list)
		}
		kept := strings.Clone(strings.Join(runs, ";"))
		overwrite(whole)
		for i := range list {
			list[i] = 9
		}
		if strings.Join(runs, ";") != kept {
			t.Errorf("answers for %v became %q", before, runs)
		}
	}
}
