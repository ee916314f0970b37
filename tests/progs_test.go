package tests

import (
	"reflect"
	"regexp"
	"strings"
	"testing"

	"loop.example/onceways/impl"
)

// example is the program of the chapter.
const example = "A,Bx,C,Dx,E:AB,AC,BD,CD,DE"

// fullText has as many blocks, edges and letters as a program may have.
const fullText = "A,BxXyYzZ,C,D,E,F,G,H,Izzzzzz:AB,BC,CD,DE,EF,FG,GH,HI,BB,CC,DD,EE,FF,GG"

// goodTexts are texts of programs.
var goodTexts = []string{
	example,
	fullText,
	"A,B:AB",
	"I,A:IA",
	"A,Bx:AB",
	"A,BXyZ:AB",
	"C,By,AzZ:CB,BA,CA",
	"A,Bx,C,DyX,E:AB,AC,BD,CD,DE,DD",
	"A,B,Cxy,D:AB,BC,CC,CD",
	"A,B,Cx,D:AB,BC,BD,CB",
	"A,BxxXx,C:AB,BC",
	"A,Bx,C,D,Fx,E:AB,AC,BD,CF,FD,DE",
	"A,B,C,D:AC,CB,BC,CD,AB,BD,BB,CC",
}

// progForm is what the text of a program looks like, valid or not.
var progForm = regexp.MustCompile(`\A[A-I][xyzXYZ]*(,[A-I][xyzXYZ]*)*:[A-I][A-I](,[A-I][A-I])*\z`)

// mustParse returns the program of a text.
func mustParse(t *testing.T, text string) impl.Prog {
	t.Helper()
	p, ok := impl.ParseProg(text)
	if !ok {
		t.Fatalf("ParseProg(%q) finds no program", text)
	}
	return p
}

// block makes a block of a name of one byte and letters.
func block(word string) impl.Block { return impl.Block{Name: word[:1], Ops: word[1:]} }

// blocks makes one of each word.
func blocks(words ...string) []impl.Block {
	var list []impl.Block
	for _, word := range words {
		list = append(list, block(word))
	}
	return list
}

// edge makes an edge of two words.
func edge(from, to string) impl.Edge { return impl.Edge{From: from, To: to} }

// build makes a program of words without checking it.
func build(list []impl.Block, edges ...string) impl.Prog {
	p := impl.Prog{Blocks: list}
	for _, e := range edges {
		p.Edges = append(p.Edges, edge(e[:1], e[1:]))
	}
	return p
}

// chain returns blocks with these names that do nothing.
func chain(names string) []impl.Block { return blocks(strings.Split(names, "")...) }

// slowValid tells by itself whether a program is valid: a table of which block comes to which.
func slowValid(p impl.Prog) bool {
	n := len(p.Blocks)
	if n < 2 || n > 9 || len(p.Edges) > 14 || p.Blocks[0].Ops != "" {
		return false
	}
	at := map[string]int{}
	for i, b := range p.Blocks {
		if len(b.Name) != 1 || !strings.Contains("ABCDEFGHI", b.Name) || len(b.Ops) > 6 || strings.Trim(b.Ops, "xyzXYZ") != "" {
			return false
		}
		at[b.Name] = i
	}
	if len(at) != n {
		return false
	}
	var comes [9][9]bool
	for _, e := range p.Edges {
		i, one := at[e.From]
		k, two := at[e.To]
		if !one || !two || i == n-1 || k == 0 || comes[i][k] {
			return false
		}
		comes[i][k] = true
	}
	for k := range n {
		comes[k][k] = true
	}
	for k := range n {
		for i := range n {
			for j := range n {
				comes[i][j] = comes[i][j] || comes[i][k] && comes[k][j]
			}
		}
	}
	for i := range n {
		if !comes[0][i] || !comes[i][n-1] {
			return false
		}
	}
	return true
}

// slowParse tells by itself which program a text is of.
func slowParse(text string) (impl.Prog, bool) {
	if !progForm.MatchString(text) {
		return impl.Prog{}, false
	}
	head, tail, _ := strings.Cut(text, ":")
	var p impl.Prog
	for _, part := range strings.Split(head, ",") {
		p.Blocks = append(p.Blocks, block(part))
	}
	for _, part := range strings.Split(tail, ",") {
		p.Edges = append(p.Edges, edge(part[:1], part[1:]))
	}
	if !slowValid(p) {
		return impl.Prog{}, false
	}
	return p, true
}

func isZero(p impl.Prog) bool { return len(p.Blocks) == 0 && len(p.Edges) == 0 }

func TestProgLimitValues(t *testing.T) {
	if impl.MaxBlocks != 9 || impl.MaxEdges != 14 || impl.MaxOps != 6 {
		t.Errorf("limits are %d, %d, %d", impl.MaxBlocks, impl.MaxEdges, impl.MaxOps)
	}
}

func TestProgExample(t *testing.T) {
	p := mustParse(t, example)
	want := impl.Prog{
		Blocks: blocks("A", "Bx", "C", "Dx", "E"),
		Edges:  []impl.Edge{edge("A", "B"), edge("A", "C"), edge("B", "D"), edge("C", "D"), edge("D", "E")},
	}
	if !reflect.DeepEqual(p, want) || !impl.ProgValid(want) || impl.FormatProg(want) != example {
		t.Errorf("ParseProg(%q) = %v", example, p)
	}
	for name, ops := range map[string]string{"A": "", "B": "x", "C": "", "D": "x", "E": ""} {
		if got, ok := impl.OpsOf(p, name); got != ops || !ok {
			t.Errorf("OpsOf(%q) = %q, %v", name, got, ok)
		}
	}
	if got, ok := impl.TermsIn(p); got != "x" || !ok {
		t.Errorf("TermsIn = %q, %v", got, ok)
	}
}

func TestProgFormattedParsedFormatted(t *testing.T) {
	for _, text := range goodTexts {
		p := mustParse(t, text)
		if !impl.ProgValid(p) || !slowValid(p) {
			t.Errorf("ParseProg(%q) = %v is not valid", text, p)
		}
		once := impl.FormatProg(p)
		again, ok := impl.ParseProg(once)
		if once != text || !ok || !reflect.DeepEqual(again, p) || impl.FormatProg(again) != text {
			t.Errorf("%q becomes %q and %v", text, once, again)
		}
	}
}

// TestProgAllEdges holds every set of edges among a few blocks against slowValid, loops, lost blocks and all.
func TestProgAllEdges(t *testing.T) {
	for _, names := range []string{"AB", "BAC", "ABCD"} {
		n := len(names)
		valid := 0
		for set := range 1 << (n * n) {
			p := impl.Prog{Blocks: chain(names)}
			for i := range n * n {
				if set>>i&1 == 1 {
					p.Edges = append(p.Edges, impl.Edge{From: names[i/n : i/n+1], To: names[i%n : i%n+1]})
				}
			}
			want := slowValid(p)
			if impl.ProgValid(p) != want {
				t.Fatalf("ProgValid(%v) = %v", p, !want)
			}
			if !want {
				continue
			}
			valid++
			if q, ok := impl.ParseProg(impl.FormatProg(p)); !ok || !reflect.DeepEqual(p, q) {
				t.Fatalf("%v becomes %v", p, q)
			}
		}
		if valid == 0 {
			t.Errorf("no set of edges among %q is valid", names)
		}
	}
}

func TestProgLimits(t *testing.T) {
	p := mustParse(t, fullText)
	if len(p.Blocks) != 9 || len(p.Edges) != 14 || len(p.Blocks[1].Ops) != 6 {
		t.Fatalf("%q is not as large as can be", fullText)
	}
	past := []struct{ what, text string }{
		{"15 edges", fullText + ",HH"},
		{"16 edges", fullText + ",HH,AC"},
		{"7 letters", strings.Replace(fullText, "BxXyYzZ", "BxXyYzZx", 1)},
		{"7 letters in the exit", strings.Replace(fullText, "Izzzzzz", "Izzzzzzz", 1)},
		{"a tenth block J", "A,B,C,D,E,F,G,H,J,I:AB,BC,CD,DE,EF,FG,GH,HJ,JI"},
		{"a tenth block with a name again", "A,B,C,D,E,F,G,H,B,I:AB,BC,CD,DE,EF,FG,GH,HI"},
		{"one block", "A:AA"},
		{"one block without edges", "A:"},
		{"two blocks without edges", "A,B:"},
	}
	for _, c := range past {
		if q, ok := impl.ParseProg(c.text); ok || !isZero(q) {
			t.Errorf("%s: ParseProg(%q) = %v, %v", c.what, c.text, q, ok)
		}
	}
	full := build(p.Blocks, strings.Split("AB,BC,CD,DE,EF,FG,GH,HI,BB,CC,DD,EE,FF,GG", ",")...)
	if !impl.ProgValid(full) {
		t.Errorf("ProgValid(%v) = false", full)
	}
	full.Edges = append(full.Edges, impl.Edge{From: "H", To: "H"})
	if impl.ProgValid(full) || impl.FormatProg(full) != "" {
		t.Errorf("ProgValid(%v) = true", full)
	}
}

func TestProgEntryAndExit(t *testing.T) {
	for text, want := range map[string]bool{
		"A,B:AB":              true,
		"Ax,B:AB":             false, // the entry computes
		"AX,B:AB":             false, // the entry spoils
		"A,Bx:AB":             true,  // the exit may do something
		"A,BX:AB":             true,
		"A,B:AA,AB":           false, // the entry leads to itself
		"A,B,C:AB,BA,BC":      false, // an edge to the entry
		"A,B:AB,BB":           false, // the exit leads to itself
		"A,B,C:AB,BC,CB":      false, // an edge from the exit
		"A,B,C:AB,BB,BC":      true,  // an edge from a block to itself
		"A,B,C:AB,BC,BC":      false, // two edges with the same From and To
		"A,B,C:AB,BB,BB,BC":   false,
		"A,B,C,D:AB,BC,CB,CD": true,  // there and back
		"A,B,C:AC,BC":         false, // B cannot be come to
		"A,B,C:AC,BB,BC":      false, // but from itself
		"A,B,C:AB,AC":         false, // the exit cannot be come to from B
		"A,B,C:AB,AC,BB":      false,
		"A,B,C,D:AD,BC,CB,BD": false, // B and C come to each other alone
		"A,B,C,D:AD,AB,BC,CB": false,
		"A,B,C:AC":            false, // B stands alone
		"A,B,C:AC,BB":         false,
	} {
		p, ok := impl.ParseProg(text)
		if ok != want || isZero(p) == want {
			t.Errorf("ParseProg(%q) = %v, %v", text, p, ok)
		}
	}
}

func TestParseProgOfNoProgram(t *testing.T) {
	texts := []string{
		"", ":", ",", "A", "A,B", "AB", "A,B:", ":AB", "A,B:AB:", "A,B::AB", "A:B:AB", "A,B:AB,", ",A,B:AB", "A,,B:AB",
		"A,B,:AB", "A,B:,AB", "A,C:AB", "A,B:AC", "A,B:AB,CB", "A,B:A", "A,B:ABC", "A,B:A,B", "a,b:ab", "A,b:Ab", "A,J:AJ",
		"A,Z:AZ", "A,A:AA", "A,Bq:AB", "A,BC:AB", "A,Bx,Bx:AB", " A,B:AB", "A,B:AB ", "A, B:AB", "A,B: AB", "A,B:AB\n",
		"A,B:AB\x00", "A,B;AB", "A,B:A-B", "A,Bé:AB", "A,B\xff:AB", "A,B1:AB", "A,B:AB,AB", "-", "A,B:-",
	}
	texts = append(texts, strings.Repeat(",", 100000)+":AB", "A,B:"+strings.Repeat("AB,", 100000)+"AB",
		"A,B"+strings.Repeat("x", 100000)+":AB", strings.Repeat(":", 100000))
	for _, text := range texts {
		if p, ok := impl.ParseProg(text); ok || !isZero(p) {
			t.Errorf("ParseProg(%.40q) = %v, %v", text, p, ok)
		}
	}
}

// TestParseProgChangedTexts changes one byte of each text in every way, and holds the answer against slowParse.
func TestParseProgChangedTexts(t *testing.T) {
	check := func(text string) {
		want, wantOK := slowParse(text)
		got, ok := impl.ParseProg(text)
		if ok != wantOK || !reflect.DeepEqual(got, want) {
			t.Fatalf("ParseProg(%q) = %v, %v", text, got, ok)
		}
		if ok && impl.FormatProg(got) != text {
			t.Fatalf("FormatProg of %q is %q", text, impl.FormatProg(got))
		}
	}
	for _, text := range goodTexts {
		for i := range len(text) + 1 {
			for c := range 256 {
				check(text[:i] + string([]byte{byte(c)}) + text[i:])
				if i < len(text) {
					check(text[:i] + string([]byte{byte(c)}) + text[i+1:])
				}
			}
			check(text[:i])
			check(text[i:])
		}
	}
}

func TestBlocksByName(t *testing.T) {
	for _, text := range goodTexts {
		p := mustParse(t, text)
		for _, b := range p.Blocks {
			wantOut, wantIn := "", ""
			for _, e := range p.Edges {
				if e.From == b.Name {
					wantOut += e.To
				}
				if e.To == b.Name {
					wantIn += e.From
				}
			}
			out, one := impl.OutOf(p, b.Name)
			in, two := impl.InOf(p, b.Name)
			ops, three := impl.OpsOf(p, b.Name)
			if out != wantOut || in != wantIn || ops != b.Ops || !one || !two || !three {
				t.Errorf("%q of %q: %q %q %q", b.Name, text, out, in, ops)
			}
		}
	}
}

// TestNamesInTheOrderOfEdges calls often, since an order that a map makes up differs from call to call.
func TestNamesInTheOrderOfEdges(t *testing.T) {
	p := mustParse(t, "A,B,C,D,E,F:AE,AB,AD,AC,EF,BE,DE,CE,EE,AF")
	for range 100 {
		if out, ok := impl.OutOf(p, "A"); out != "EBDCF" || !ok {
			t.Fatalf("OutOf = %q, %v", out, ok)
		}
		if in, ok := impl.InOf(p, "E"); in != "ABDCE" || !ok {
			t.Fatalf("InOf = %q, %v", in, ok)
		}
	}
}

func TestNamesThatAreNoBlock(t *testing.T) {
	p := mustParse(t, example)
	for _, name := range []string{"", "F", "I", "J", "a", "b", "x", "AB", "A ", " A", "B,", "Bx", "\x00", "ß", strings.Repeat("A", 1000)} {
		out, one := impl.OutOf(p, name)
		in, two := impl.InOf(p, name)
		ops, three := impl.OpsOf(p, name)
		if out != "" || in != "" || ops != "" || one || two || three {
			t.Errorf("name %.40q: %q %v, %q %v, %q %v", name, out, one, in, two, ops, three)
		}
		if a, b := impl.EdgeOf(p, name, "B"), impl.EdgeOf(p, "A", name); a != -1 || b != -1 {
			t.Errorf("EdgeOf %.40q = %d, %d", name, a, b)
		}
	}
}

func TestEdgeOf(t *testing.T) {
	for _, text := range goodTexts {
		p := mustParse(t, text)
		for _, from := range p.Blocks {
			for _, to := range p.Blocks {
				want := -1
				for i, e := range p.Edges {
					if e == (impl.Edge{From: from.Name, To: to.Name}) {
						want = i
					}
				}
				if got := impl.EdgeOf(p, from.Name, to.Name); got != want {
					t.Errorf("EdgeOf(%q, %q, %q) = %d", text, from.Name, to.Name, got)
				}
			}
		}
	}
}

func TestTermsIn(t *testing.T) {
	for text, want := range map[string]string{
		"A,B:AB":                   "",
		"A,BXYZ:AB":                "", // what is only spoilt is not computed
		"A,Bx:AB":                  "x",
		"A,By:AB":                  "y",
		"A,Bz:AB":                  "z",
		"A,BzyX:AB":                "yz",
		"A,BXx:AB":                 "x",
		"A,Bz,Cy,Dx:AB,BC,CD":      "xyz",
		"A,Bzz,Cz,Dxz:AB,BC,BD,CD": "xz",
	} {
		if got, ok := impl.TermsIn(mustParse(t, text)); got != want || !ok {
			t.Errorf("TermsIn(%q) = %q, %v", text, got, ok)
		}
	}
}

func TestSwapTerms(t *testing.T) {
	for _, text := range goodTexts {
		p := mustParse(t, text)
		for _, one := range []string{"x", "y", "z"} {
			for _, two := range []string{"x", "y", "z"} {
				// With one term twice, the first pair of the replacer is taken, which changes nothing.
				other := strings.NewReplacer(one, two, two, one, strings.ToUpper(one), strings.ToUpper(two), strings.ToUpper(two), strings.ToUpper(one))
				q, ok := impl.SwapTerms(p, one, two)
				if got := impl.FormatProg(q); got != other.Replace(text) || !ok || !reflect.DeepEqual(q.Edges, p.Edges) {
					t.Errorf("SwapTerms(%q, %q, %q) = %q, %v", text, one, two, got, ok)
				}
				back, ok := impl.SwapTerms(q, two, one)
				if !ok || !reflect.DeepEqual(back, p) {
					t.Errorf("SwapTerms of SwapTerms(%q, %q, %q) = %v, %v", text, one, two, back, ok)
				}
			}
		}
	}
	q, ok := impl.SwapTerms(mustParse(t, "A,BxyzXYZ,C:AB,BC"), "x", "z")
	if got := impl.FormatProg(q); got != "A,BzyxZYX,C:AB,BC" || !ok {
		t.Errorf("SwapTerms = %q, %v", got, ok)
	}
}

func TestWordsThatAreNoTerm(t *testing.T) {
	p := mustParse(t, example)
	for _, word := range []string{"", "X", "Y", "Z", "w", "{", "xx", "xy", "x ", " x", "A", "\x00", "é", strings.Repeat("x", 1000)} {
		for _, pair := range [][2]string{{word, "x"}, {"x", word}, {word, word}} {
			if q, ok := impl.SwapTerms(p, pair[0], pair[1]); ok || !isZero(q) {
				t.Errorf("SwapTerms(%.40q, %.40q) = %v, %v", pair[0], pair[1], q, ok)
			}
		}
	}
}

// badProgs are programs that are not valid, most of which no text tells.
func badProgs() map[string]impl.Prog {
	good := blocks("A", "Bx", "C")
	with := func(b impl.Block) []impl.Block { return []impl.Block{block("A"), b, block("C")} }
	bad := map[string]impl.Prog{
		"nothing":          {},
		"empty slices":     {Blocks: []impl.Block{}, Edges: []impl.Edge{}},
		"no edges":         {Blocks: good},
		"no blocks":        build(nil, "AB", "BC"),
		"one block":        build(good[:1]),
		"ten blocks":       build(chain("ABCDEFGHIJ"), "AB", "BC", "CD", "DE", "EF", "FG", "GH", "HI", "IJ"),
		"names again":      build(chain("ABCDEFGHAB"), "AB", "BC", "CD", "DE", "EF", "FG", "GH"),
		"name again":       build(blocks("A", "Bx", "B"), "AB"),
		"no name":          {Blocks: with(impl.Block{Ops: "x"}), Edges: []impl.Edge{edge("A", ""), edge("", "C")}},
		"long name":        {Blocks: with(impl.Block{Name: "BB"}), Edges: []impl.Edge{edge("A", "BB"), edge("BB", "C")}},
		"small name":       build(with(impl.Block{Name: "b"}), "Ab", "bC"),
		"name past I":      build(with(impl.Block{Name: "J"}), "AJ", "JC"),
		"name ahead of A":  build(with(impl.Block{Name: "@"}), "A@", "@C"),
		"name with comma":  build(with(impl.Block{Name: ","}), "A,", ",C"),
		"letter w":         build(with(impl.Block{Name: "B", Ops: "w"}), "AB", "BC"),
		"letter {":         build(with(impl.Block{Name: "B", Ops: "{"}), "AB", "BC"),
		"letter W":         build(with(impl.Block{Name: "B", Ops: "W"}), "AB", "BC"),
		"letter [":         build(with(impl.Block{Name: "B", Ops: "x["}), "AB", "BC"),
		"letter comma":     build(with(impl.Block{Name: "B", Ops: "x,"}), "AB", "BC"),
		"seven letters":    build(with(impl.Block{Name: "B", Ops: "xxxxxxx"}), "AB", "BC"),
		"entry computes":   build(blocks("Ax", "B"), "AB"),
		"entry spoils":     build(blocks("AZ", "B"), "AB"),
		"edge to entry":    build(good, "AB", "BC", "BA"),
		"entry to itself":  build(good, "AB", "BC", "AA"),
		"edge from exit":   build(good, "AB", "BC", "CB"),
		"exit to itself":   build(good, "AB", "BC", "CC"),
		"edge again":       build(good, "AB", "BC", "AB"),
		"edge from none":   build(good, "AB", "BC", "DB"),
		"edge to none":     build(good, "AB", "BC", "BD"),
		"edge of no names": {Blocks: good, Edges: []impl.Edge{edge("A", "B"), edge("B", "C"), edge("", "")}},
		"edge of a text":   {Blocks: good, Edges: []impl.Edge{edge("AB", ""), edge("B", "C")}},
		"not come to":      build(good, "AC", "BC"),
		"no way to exit":   build(good, "AB", "AC"),
	}
	many := build(good, "AB", "BC")
	for range 100000 {
		many.Edges = append(many.Edges, impl.Edge{From: "A", To: "C"})
	}
	bad["many edges"] = many
	bad["many blocks"] = impl.Prog{Blocks: make([]impl.Block, 100000)}
	return bad
}

func TestProgsThatAreNotValid(t *testing.T) {
	for what, p := range badProgs() {
		if impl.ProgValid(p) || impl.FormatProg(p) != "" {
			t.Errorf("%s: valid, %q", what, impl.FormatProg(p))
		}
		out, one := impl.OutOf(p, "A")
		in, two := impl.InOf(p, "B")
		ops, three := impl.OpsOf(p, "B")
		if out != "" || in != "" || ops != "" || one || two || three {
			t.Errorf("%s: %q %v, %q %v, %q %v", what, out, one, in, two, ops, three)
		}
		terms, four := impl.TermsIn(p)
		q, five := impl.SwapTerms(p, "x", "y")
		if terms != "" || four || !isZero(q) || five || impl.EdgeOf(p, "A", "B") != -1 || impl.EdgeOf(p, "A", "C") != -1 {
			t.Errorf("%s: %q %v, %v %v", what, terms, four, q, five)
		}
	}
}

// withSpare returns a program with memory behind its slices' ends, and the whole of that memory.
func withSpare(p impl.Prog) (impl.Prog, impl.Prog) {
	blocks := append(append([]impl.Block{}, p.Blocks...), impl.Block{Name: "spare", Ops: "b"}, impl.Block{Name: "spare", Ops: "c"})
	edges := append(append([]impl.Edge{}, p.Edges...), impl.Edge{From: "spare", To: "d"}, impl.Edge{From: "spare", To: "e"})
	return impl.Prog{Blocks: blocks[:len(p.Blocks)], Edges: edges[:len(p.Edges)]}, impl.Prog{Blocks: blocks, Edges: edges}
}

// copyOf returns a program in memory of its own.
func copyOf(p impl.Prog) impl.Prog {
	return impl.Prog{Blocks: append([]impl.Block{}, p.Blocks...), Edges: append([]impl.Edge{}, p.Edges...)}
}

// overwrite changes all memory of a program, unused capacity included.
func overwrite(p impl.Prog) {
	blocks, edges := p.Blocks[:cap(p.Blocks)], p.Edges[:cap(p.Edges)]
	for i := range blocks {
		blocks[i] = impl.Block{Name: "over", Ops: "written"}
	}
	for i := range edges {
		edges[i] = impl.Edge{From: "over", To: "written"}
	}
}

func TestProgArgumentsStay(t *testing.T) {
	progs := []impl.Prog{mustParse(t, example), mustParse(t, fullText), build(chain("ABC"), "AB", "BC", "BA"), build(chain("ABB"), "AB")}
	for _, prog := range progs {
		p, whole := withSpare(prog)
		before := copyOf(whole)
		impl.ProgValid(p)
		impl.FormatProg(p)
		impl.OutOf(p, "A")
		impl.InOf(p, "B")
		impl.OpsOf(p, "B")
		impl.TermsIn(p)
		impl.EdgeOf(p, "A", "B")
		impl.SwapTerms(p, "x", "y")
		impl.SwapTerms(p, "x", "x")
		impl.SwapTerms(p, "x", "w")
		if !reflect.DeepEqual(whole, before) {
			t.Errorf("%v became %v", before, whole)
		}
	}
}

func TestProgResultsShareNothing(t *testing.T) {
	for _, other := range []string{"x", "y"} {
		p, whole := withSpare(mustParse(t, fullText))
		before := copyOf(whole)
		first, _ := impl.SwapTerms(p, "x", other)
		second, _ := impl.SwapTerms(p, "x", other)
		kept := copyOf(second)
		overwrite(first)
		if !reflect.DeepEqual(whole, before) || !reflect.DeepEqual(second, kept) {
			t.Errorf("SwapTerms with %q shares memory with its argument or with another result", other)
		}
		overwrite(whole)
		if !reflect.DeepEqual(second, kept) {
			t.Errorf("SwapTerms with %q keeps its argument's memory", other)
		}
	}
	first, second := mustParse(t, fullText), mustParse(t, fullText)
	overwrite(first)
	if impl.FormatProg(second) != fullText {
		t.Errorf("two programs of one text share memory")
	}
}
