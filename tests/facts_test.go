package tests

import (
	"math/rand"
	"reflect"
	"strconv"
	"strings"
	"testing"

	"loop.example/onceways/impl"
)

// factsExample is the program of the chapter.
const factsExample = "A,BxxXx,C:AB,BC"

// notNames are names of no block of a program with the blocks A to E.
var notNames = []string{"", "F", "I", "J", "a", "b", "x", "AB", "BB", "B ", " B", "B,", "Bx", "\x00", "ß", strings.Repeat("B", 1000)}

// notTerms are words that are no term.
var notTerms = []string{"", "X", "Y", "Z", "w", "{", "xx", "xy", "xyz", "x ", " x", "A", "\x00", "é", strings.Repeat("x", 1000)}

// A fact is what a block does to a term.
type fact struct {
	groups          int
	up, down, clear bool
}

// askedFact asks the program.
func askedFact(p impl.Prog, name, term string) fact {
	return fact{impl.GroupsIn(p, name, term), impl.UpIn(p, name, term), impl.DownIn(p, name, term), impl.ClearIn(p, name, term)}
}

// noFact is the answer where there is none.
var noFact = fact{groups: -1}

// slowFact tells by itself: of the letters, those of the term alone are left, which are cut where it is spoilt.
func slowFact(ops, term string) fact {
	spoiler := strings.ToUpper(term)
	alone := strings.Map(func(r rune) rune {
		if strings.ContainsRune(term+spoiler, r) {
			return r
		}
		return -1
	}, ops)
	f := fact{up: strings.HasPrefix(alone, term), down: strings.HasSuffix(alone, term), clear: !strings.Contains(ops, spoiler)}
	for _, part := range strings.Split(alone, spoiler) {
		if part != "" {
			f.groups++
		}
	}
	return f
}

// factText writes a fact as FactsOf does.
func factText(f fact) string {
	text := strconv.Itoa(f.groups)
	for _, mark := range []struct {
		letter string
		on     bool
	}{{"u", f.up}, {"d", f.down}, {"c", f.clear}} {
		if mark.on {
			text += mark.letter
		}
	}
	return text
}

// slowTidy leaves out each letter behind the same one with nothing between them that spoils it.
func slowTidy(ops string) string {
	text := ""
	for i := range len(ops) {
		letter := ops[i : i+1]
		last := strings.LastIndex(ops[:i], letter)
		if !strings.Contains("xyz", letter) || last < 0 || strings.Contains(ops[last:i], strings.ToUpper(letter)) {
			text += letter
		}
	}
	return text
}

// slowTidyProg makes each block tidy.
func slowTidyProg(p impl.Prog) impl.Prog {
	q := copyOf(p)
	for i := range q.Blocks {
		q.Blocks[i].Ops = slowTidy(q.Blocks[i].Ops)
	}
	return q
}

// checkFacts holds what all blocks of a program do against the slow answers.
func checkFacts(t *testing.T, p impl.Prog) {
	t.Helper()
	for _, term := range []string{"x", "y", "z"} {
		var texts []string
		for _, b := range p.Blocks {
			want := slowFact(b.Ops, term)
			if got := askedFact(p, b.Name, term); got != want {
				t.Fatalf("block %q of %q does %v to %q", b.Name, impl.FormatProg(p), got, term)
			}
			texts = append(texts, b.Name+factText(want))
		}
		if got, ok := impl.FactsOf(p, term); got != strings.Join(texts, " ") || !ok {
			t.Fatalf("FactsOf(%q, %q) = %q, %v", impl.FormatProg(p), term, got, ok)
		}
	}
}

// checkTidy holds the tidy program against the slow one, which is tidy itself and does the same.
func checkTidy(t *testing.T, p impl.Prog) {
	t.Helper()
	want := slowTidyProg(p)
	got, ok := impl.Tidy(p)
	if !ok || !reflect.DeepEqual(got, want) {
		t.Fatalf("Tidy(%q) = %q, %v", impl.FormatProg(p), impl.FormatProg(got), ok)
	}
	if impl.IsTidy(p) != reflect.DeepEqual(p, want) || !impl.IsTidy(got) {
		t.Fatalf("IsTidy(%q) = %v, and of the tidy one %v", impl.FormatProg(p), impl.IsTidy(p), impl.IsTidy(got))
	}
	if again, ok := impl.Tidy(got); !ok || !reflect.DeepEqual(again, want) {
		t.Fatalf("Tidy of Tidy of %q = %q, %v", impl.FormatProg(p), impl.FormatProg(again), ok)
	}
	for _, term := range []string{"x", "y", "z"} {
		one, _ := impl.FactsOf(p, term)
		if two, _ := impl.FactsOf(got, term); one != two || one == "" {
			t.Fatalf("%q has %q, and tidy %q", impl.FormatProg(p), one, two)
		}
	}
}

// checkOnce holds how often a run computes each term against the sum of its blocks and the tidy program's run.
func checkOnce(t *testing.T, p impl.Prog, run string) {
	t.Helper()
	tidy, _ := impl.Tidy(p)
	for _, term := range []string{"x", "y", "z"} {
		want := 0
		for _, name := range strings.Split(run, "") {
			for _, b := range p.Blocks {
				if b.Name == name {
					want += slowFact(b.Ops, term).groups
				}
			}
		}
		once := impl.CountOnce(p, run, term)
		if once != want || once != impl.CountOn(tidy, run, term) || once != impl.CountOnce(tidy, run, term) {
			t.Fatalf("CountOnce(%q, %q, %q) = %d, not %d", impl.FormatProg(p), run, term, once, want)
		}
		if needed := impl.NeededOn(p, run, term); needed > once || once > impl.CountOn(p, run, term) || needed != impl.NeededOn(tidy, run, term) {
			t.Fatalf("CountOnce(%q, %q, %q) = %d, but it needs %d", impl.FormatProg(p), run, term, once, needed)
		}
	}
}

// allWords returns all words of some letters up to a length.
func allWords(letters string, most int) []string {
	words := []string{""}
	for i := 0; i < len(words); i++ {
		for _, letter := range strings.Split(letters, "") {
			if len(words[i]) < most {
				words = append(words, words[i]+letter)
			}
		}
	}
	return words
}

func TestFactsExample(t *testing.T) {
	p := mustParse(t, factsExample)
	if got, ok := impl.FactsOf(p, "x"); got != "A0c B2ud C0c" || !ok {
		t.Errorf("FactsOf = %q, %v", got, ok)
	}
	if got, want := askedFact(p, "B", "x"), (fact{2, true, true, false}); got != want {
		t.Errorf("B does %v", got)
	}
	q, ok := impl.Tidy(p)
	if got := impl.FormatProg(q); got != "A,BxXx,C:AB,BC" || !ok || impl.IsTidy(p) || !impl.IsTidy(q) {
		t.Errorf("Tidy = %q, %v", got, ok)
	}
	if a, b := impl.CountOnce(p, "ABC", "x"), impl.CountOn(p, "ABC", "x"); a != 2 || b != 3 {
		t.Errorf("x is computed %d times, and %d times", a, b)
	}
}

// TestFactsOfOneBlock has the answers written out, for a block B, an exit or both.
func TestFactsOfOneBlock(t *testing.T) {
	for _, c := range []struct{ ops, x, y, tidy string }{
		{"", "0c", "0c", ""},
		{"x", "1udc", "0c", "x"},
		{"xx", "1udc", "0c", "x"},
		{"xxxxxx", "1udc", "0c", "x"},
		{"X", "0", "0c", "X"}, // it only spoils
		{"XX", "0", "0c", "XX"},
		{"XXXXXX", "0", "0c", "XXXXXX"},
		{"XYZ", "0", "0", "XYZ"},
		{"xX", "1u", "0c", "xX"}, // spoilt last
		{"xxX", "1u", "0c", "xX"},
		{"xXX", "1u", "0c", "xXX"},
		{"Xx", "1d", "0c", "Xx"}, // computed last
		{"Xxx", "1d", "0c", "Xx"},
		{"XxX", "1", "0c", "XxX"}, // computed, but neither first nor last
		{"xXx", "2ud", "0c", "xXx"},
		{"xXxX", "2u", "0c", "xXxX"},
		{"XxXx", "2d", "0c", "XxXx"},
		{"xXxXxX", "3u", "0c", "xXxXxX"},
		{"XxXxXx", "3d", "0c", "XxXxXx"},
		{"XxXxX", "2", "0c", "XxXxX"},
		{"xyxy", "1udc", "1udc", "xy"}, // several terms
		{"yxyx", "1udc", "1udc", "yx"},
		{"xYx", "1udc", "0", "xY"}, // another term that is spoilt does not matter
		{"xYxy", "1udc", "1d", "xYy"},
		{"yxYxyx", "1udc", "2ud", "yxYy"},
		{"xyXYxy", "2ud", "2ud", "xyXYxy"},
		{"xXyxyY", "2ud", "1u", "xXyxY"},
		{"zzZzz", "0c", "0c", "zZz"},
		{"zxzyzX", "1u", "1udc", "zxyX"},
	} {
		for _, text := range []string{"A,B" + c.ops + ",C:AB,BC", "A,B" + c.ops + ":AB", "A,C,B" + c.ops + ",D:AC,CB,BB,BD"} {
			p := mustParse(t, text)
			for term, want := range map[string]string{"x": c.x, "y": c.y} {
				if got := factText(askedFact(p, "B", term)); got != want {
					t.Errorf("B of %q does %q to %q", text, got, term)
				}
				if got, ok := impl.FactsOf(p, term); !strings.Contains(" "+got+" ", " B"+want+" ") || !ok {
					t.Errorf("FactsOf(%q, %q) = %q, %v", text, term, got, ok)
				}
			}
			q, ok := impl.Tidy(p)
			if got, _ := impl.OpsOf(q, "B"); got != c.tidy || !ok || impl.IsTidy(p) != (c.ops == c.tidy) {
				t.Errorf("Tidy(%q) = %q, %v", text, impl.FormatProg(q), ok)
			}
		}
	}
}

// TestFactsOfAllWords has all blocks of a few letters, up to MaxOps of them.
func TestFactsOfAllWords(t *testing.T) {
	words := append(allWords("xX", 6), allWords("xXy", 6)...)
	words = append(words, allWords("xyzXYZ", 4)...)
	for _, word := range words {
		p := mustParse(t, "A,B"+word+",C:AB,BB,BC")
		checkFacts(t, p)
		checkTidy(t, p)
		checkOnce(t, p, "ABBC")
	}
}

func TestFactsOfProgs(t *testing.T) {
	for _, p := range someProgs(t, 200) {
		checkFacts(t, p)
		checkTidy(t, p)
		for _, run := range sampleRuns(p)[:1] {
			checkOnce(t, p, run)
		}
	}
}

// TestFactsInTheOrderOfBlocks has names that are in no order, and asks often.
func TestFactsInTheOrderOfBlocks(t *testing.T) {
	p := mustParse(t, "I,Dx,GX,Bxx,AxX,CXx,H:ID,IG,DC,DA,GB,BH,AH,CH,GA")
	for range 50 {
		if got, ok := impl.FactsOf(p, "x"); got != "I0c D1udc G0 B1udc A1u C1d H0c" || !ok {
			t.Fatalf("FactsOf = %q, %v", got, ok)
		}
		if got, ok := impl.FactsOf(p, "z"); got != "I0c D0c G0c B0c A0c C0c H0c" || !ok {
			t.Fatalf("FactsOf = %q, %v", got, ok)
		}
	}
}

// TestFactsOfTheEnds has an entry, which does nothing, and exits that do something.
func TestFactsOfTheEnds(t *testing.T) {
	for ops, want := range map[string]string{"": "A0c B0c", "x": "A0c B1udc", "xxXx": "A0c B2ud", "X": "A0c B0", "yY": "A0c B0c", "XxxxxX": "A0c B1"} {
		p := mustParse(t, "A,B"+ops+":AB")
		if got, ok := impl.FactsOf(p, "x"); got != want || !ok {
			t.Errorf("FactsOf = %q, %v", got, ok)
		}
		if got := askedFact(p, "A", "x"); got != (fact{clear: true}) {
			t.Errorf("the entry does %v", got)
		}
		checkFacts(t, p)
		checkTidy(t, p)
		checkOnce(t, p, "AB")
	}
}

// TestFactsOfBlocksAlone has blocks in which a term is there from ahead, which a block does not know.
func TestFactsOfBlocksAlone(t *testing.T) {
	p := mustParse(t, "A,Bxx,Cx,Dxx,ExX,Fxx:AB,BC,CD,DE,EF,CC")
	if got, ok := impl.FactsOf(p, "x"); got != "A0c B1udc C1udc D1udc E1u F1udc" || !ok {
		t.Errorf("FactsOf = %q, %v", got, ok)
	}
	q, ok := impl.Tidy(p)
	if got := impl.FormatProg(q); got != "A,Bx,Cx,Dx,ExX,Fx:AB,BC,CD,DE,EF,CC" || !ok {
		t.Errorf("Tidy = %q, %v", got, ok)
	}
	if a, b, c := impl.CountOn(p, "ABCCDEF", "x"), impl.CountOnce(p, "ABCCDEF", "x"), impl.NeededOn(p, "ABCCDEF", "x"); a != 9 || b != 6 || c != 2 {
		t.Errorf("x is computed %d times, %d and %d", a, b, c)
	}
}

// TestTidyProgsStay has programs in which nothing is left out.
func TestTidyProgsStay(t *testing.T) {
	for _, text := range []string{example, "A,B:AB", "A,BxXxXxX,CXxXxXx,DxyzXYZ,EZYXzyx,FXXXXXX:AB,BC,CD,DE,EF", "A,Bx,Cx,Dx:AB,BC,CD,CB"} {
		p := mustParse(t, text)
		q, ok := impl.Tidy(p)
		if impl.FormatProg(q) != text || !ok || !impl.IsTidy(p) {
			t.Errorf("Tidy(%q) = %q, %v", text, impl.FormatProg(q), ok)
		}
	}
	for _, ops := range []string{"xx", "yy", "zz", "xyx", "xYx", "XYZzXz", "xXxyZx"} {
		for _, text := range []string{"A,B" + ops + ",C:AB,BC", "A,C,B" + ops + ":AC,CB"} {
			if impl.IsTidy(mustParse(t, text)) {
				t.Errorf("IsTidy(%q) = true", text)
			}
		}
	}
}

// TestFactsSwapped has terms that stand for each other.
func TestFactsSwapped(t *testing.T) {
	for _, p := range someProgs(t, 30) {
		for _, pair := range []string{"xy", "yz", "zx", "xx"} {
			one, two := pair[:1], pair[1:]
			q, _ := impl.SwapTerms(p, one, two)
			a, _ := impl.FactsOf(p, one)
			if b, ok := impl.FactsOf(q, two); a != b || !ok {
				t.Fatalf("%q: %q to %q, and %q to %q of the other one", impl.FormatProg(p), a, one, b, two)
			}
			c, _ := impl.Tidy(q)
			d, _ := impl.Tidy(p)
			if d, ok := impl.SwapTerms(d, one, two); !reflect.DeepEqual(c, d) || !ok {
				t.Fatalf("Tidy(%q) differs with %q swapped", impl.FormatProg(p), pair)
			}
		}
	}
}

func TestCountOnce(t *testing.T) {
	dice := rand.New(rand.NewSource(4))
	for _, p := range someProgs(t, 60) {
		for _, run := range sampleRuns(p) {
			checkOnce(t, p, run)
		}
		for range 5 {
			picks := make([]int, dice.Intn(20))
			for i := range picks {
				picks[i] = dice.Intn(12)
			}
			checkOnce(t, p, slowWalk(p, picks))
		}
	}
}

func TestCountOnceOnFortyBlocks(t *testing.T) {
	p := mustParse(t, "A,BxxXxxy,CzZz:AB,BB,BC")
	forty := "A" + strings.Repeat("B", 38) + "C"
	checkOnce(t, p, forty)
	if a, b, c := impl.CountOnce(p, forty, "x"), impl.CountOnce(p, forty, "y"), impl.CountOnce(p, forty, "z"); a != 76 || b != 38 || c != 2 {
		t.Errorf("CountOnce = %d, %d and %d", a, b, c)
	}
	for _, n := range []int{39, 40, 1000000} {
		run := "A" + strings.Repeat("B", n) + "C"
		for _, term := range []string{"x", "y", "z", "X"} {
			if got := impl.CountOnce(p, run, term); got != -1 {
				t.Errorf("CountOnce of %d blocks = %d", len(run), got)
			}
		}
	}
}

func TestCountOnceOfNoRun(t *testing.T) {
	p := mustParse(t, example)
	for _, run := range []string{"", "A", "E", "AE", "AB", "ABD", "BDE", "ABE", "ACDEE", "AABDE", "ABDEABDE", "abde", "ABDE ", "A,B,D,E", "AFDE", "ABD\xff", "-"} {
		for _, term := range []string{"x", "y", "z", "w"} {
			if got := impl.CountOnce(p, run, term); got != -1 {
				t.Errorf("CountOnce(%q, %q) = %d", run, term, got)
			}
		}
	}
}

func TestFactsOfNoBlock(t *testing.T) {
	p := mustParse(t, example)
	for _, name := range notNames {
		for _, term := range append([]string{"x", "y", "z"}, notTerms...) {
			if got := askedFact(p, name, term); got != noFact {
				t.Errorf("block %.40q does %v to %.40q", name, got, term)
			}
		}
	}
}

func TestFactsOfNoTerm(t *testing.T) {
	p := mustParse(t, example)
	for _, term := range notTerms {
		for _, name := range []string{"A", "B", "C", "E"} {
			if got := askedFact(p, name, term); got != noFact {
				t.Errorf("block %q does %v to %.40q", name, got, term)
			}
		}
		if got, ok := impl.FactsOf(p, term); got != "" || ok {
			t.Errorf("FactsOf(%.40q) = %q, %v", term, got, ok)
		}
		if got := impl.CountOnce(p, "ABDE", term); got != -1 {
			t.Errorf("CountOnce(%.40q) = %d", term, got)
		}
	}
}

func TestFactsOfProgsThatAreNotValid(t *testing.T) {
	for what, p := range badProgs() {
		for _, term := range []string{"x", "y", "z", "X", ""} {
			for _, name := range []string{"A", "B", "C", "J", "", "BB", "b"} {
				if got := askedFact(p, name, term); got != noFact {
					t.Errorf("%s: block %q does %v to %q", what, name, got, term)
				}
			}
			if got, ok := impl.FactsOf(p, term); got != "" || ok {
				t.Errorf("%s: FactsOf(%q) = %q, %v", what, term, got, ok)
			}
			for _, run := range []string{"", "A", "AB", "ABC", "ABBC"} {
				if got := impl.CountOnce(p, run, term); got != -1 {
					t.Errorf("%s: CountOnce(%q, %q) = %d", what, run, term, got)
				}
			}
		}
		if q, ok := impl.Tidy(p); !isZero(q) || ok || impl.IsTidy(p) {
			t.Errorf("%s: Tidy = %v, %v, and IsTidy is %v", what, q, ok, impl.IsTidy(p))
		}
	}
}

func TestFactArgumentsStay(t *testing.T) {
	for _, prog := range []impl.Prog{mustParse(t, example), mustParse(t, fullText), mustParse(t, factsExample), build(blocks("A", "Bxx", "C"), "AB", "BC", "BA")} {
		p, whole := withSpare(prog)
		before := copyOf(whole)
		for _, term := range []string{"x", "y", "w"} {
			for _, name := range []string{"A", "B", "J"} {
				askedFact(p, name, term)
			}
			impl.FactsOf(p, term)
			for _, run := range []string{"ABDE", "ABC", "ABCDEFGHI", "AE"} {
				impl.CountOnce(p, run, term)
			}
		}
		impl.Tidy(p)
		impl.IsTidy(p)
		if !reflect.DeepEqual(whole, before) {
			t.Errorf("%v became %v", before, whole)
		}
	}
}

// TestTidyProgsShareNothing has a program that is tidy already, and one that is not.
func TestTidyProgsShareNothing(t *testing.T) {
	for _, text := range []string{example, fullText, factsExample} {
		p, whole := withSpare(mustParse(t, text))
		before := copyOf(whole)
		first, _ := impl.Tidy(p)
		second, _ := impl.Tidy(p)
		kept := copyOf(second)
		overwrite(first)
		if !reflect.DeepEqual(whole, before) || !reflect.DeepEqual(second, kept) {
			t.Errorf("Tidy(%q) shares memory with its argument or with another result", text)
		}
		overwrite(whole)
		if !reflect.DeepEqual(second, kept) || !reflect.DeepEqual(kept, slowTidyProg(mustParse(t, text))) {
			t.Errorf("Tidy(%q) keeps its argument's memory", text)
		}
	}
}
