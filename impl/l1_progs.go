package impl

import (
	"errors"
	"maps"
	"slices"
	"strings"
)

// Limits of programs.
const (
	MaxBlocks = 9
	MaxEdges  = 14
	MaxOps    = 6
)

// A Block has a name and what it does.
type Block struct {
	Name string
	Ops  string
}

// An Edge leads from a block to a block.
type Edge struct {
	From string
	To   string
}

// A Prog has blocks, of which the first one is the entry and the last one the exit, and edges.
type Prog struct {
	Blocks []Block
	Edges  []Edge
}

// Why something is no program.
var (
	errColon = errors.New("no colon between blocks and edges")
	errCount = errors.New("too few or too many blocks or edges")
	errName  = errors.New("no name of a block, or one that another block has")
	errOps   = errors.New("too many letters, or one that tells nothing")
	errEdge  = errors.New("no edge between two blocks, or one that is there already")
	errEntry = errors.New("an entry that does something, or to which an edge leads")
	errExit  = errors.New("an exit from which an edge leads")
	errLost  = errors.New("a block without a way from the entry or to the exit")
)

// A partError tells which part of a program or of its text is wrong, and wraps why.
type partError struct {
	part string
	why  error
}

func (e partError) Error() string { return e.part + ": " + e.why.Error() }

func (e partError) Unwrap() error { return e.why }

// An op is what one letter of a block does.
type op interface {
	letter() byte
}

// computes and spoils are the two kinds of ops, each of one term.
type computes struct{ term byte }

type spoils struct{ term byte }

func (c computes) letter() byte { return c.term }

func (s spoils) letter() byte { return s.term - 'x' + 'X' }

// links hold the index of each edge, by the block at its one end and then by the block at its other end.
type links map[string]map[string]int

// A plan is a valid program in which blocks and edges are found by name.
type plan struct {
	ops map[string][]op
	out links
	in  links
}

// ProgValid reports whether a program is valid.
func ProgValid(p Prog) bool {
	_, err := planOf(p)
	return err == nil
}

// FormatProg returns the text of a program.
func FormatProg(p Prog) string {
	if !ProgValid(p) {
		return ""
	}
	var blocks, edges []string
	for _, b := range p.Blocks {
		blocks = append(blocks, b.Name+b.Ops)
	}
	for _, e := range p.Edges {
		edges = append(edges, e.From+e.To)
	}
	return strings.Join(blocks, ",") + ":" + strings.Join(edges, ",")
}

// ParseProg parses the text of a program.
func ParseProg(text string) (Prog, bool) {
	p, err := readProg(text)
	if err != nil {
		return Prog{}, false
	}
	return p, true
}

// OutOf returns the blocks to which edges lead from a block.
func OutOf(p Prog, name string) (string, bool) {
	pl, ok := planWith(p, name)
	if !ok {
		return "", false
	}
	return pl.out.namesAt(name), true
}

// InOf returns the blocks from which edges lead to a block.
func InOf(p Prog, name string) (string, bool) {
	pl, ok := planWith(p, name)
	if !ok {
		return "", false
	}
	return pl.in.namesAt(name), true
}

// OpsOf returns what a block does.
func OpsOf(p Prog, name string) (string, bool) {
	pl, ok := planWith(p, name)
	if !ok {
		return "", false
	}
	return writeOps(pl.ops[name]), true
}

// TermsIn returns the terms that are computed somewhere.
func TermsIn(p Prog) (string, bool) {
	pl, err := planOf(p)
	if err != nil {
		return "", false
	}
	found := map[byte]bool{}
	for _, ops := range pl.ops {
		for _, o := range ops {
			switch o := o.(type) {
			case computes:
				found[o.term] = true
			case spoils:
				// A term that is only spoilt is computed nowhere.
			}
		}
	}
	return string(slices.Sorted(maps.Keys(found))), true
}

// EdgeOf returns the index of an edge.
func EdgeOf(p Prog, from string, to string) int {
	pl, err := planOf(p)
	if err != nil {
		return -1
	}
	if i, ok := pl.out[from][to]; ok {
		return i
	}
	return -1
}

// SwapTerms returns a program in which two terms have each other's names.
func SwapTerms(p Prog, t string, u string) (Prog, bool) {
	pl, err := planOf(p)
	if err != nil || !isTerm(t) || !isTerm(u) {
		return Prog{}, false
	}
	q := Prog{Edges: slices.Clone(p.Edges)}
	for _, b := range p.Blocks {
		ops := swapIn(pl.ops[b.Name], t[0], u[0])
		q.Blocks = append(q.Blocks, Block{Name: b.Name, Ops: writeOps(ops)})
	}
	return q, true
}

// isTerm reports whether a text is a term.
func isTerm(text string) bool {
	return text == "x" || text == "y" || text == "z"
}

// isName reports whether a text can be the name of a block.
func isName(text string) bool {
	return len(text) == 1 && 'A' <= text[0] && text[0] <= 'I'
}

// planOf returns the plan of a program, or why the program is not valid.
func planOf(p Prog) (plan, error) {
	if len(p.Blocks) < 2 || len(p.Blocks) > MaxBlocks || len(p.Edges) > MaxEdges {
		return plan{}, errCount
	}
	ops, err := opsByName(p.Blocks)
	if err != nil {
		return plan{}, err
	}
	pl := plan{ops: ops, out: links{}, in: links{}}
	for i, e := range p.Edges {
		if !pl.canJoin(e) {
			return plan{}, partError{e.From + e.To, errEdge}
		}
		pl.out.put(e.From, e.To, i)
		pl.in.put(e.To, e.From, i)
	}
	if err := pl.checkEnds(p.Blocks[0].Name, p.Blocks[len(p.Blocks)-1].Name); err != nil {
		return plan{}, err
	}
	return pl, nil
}

// planWith returns the plan of a program, and whether it is valid and has a block of this name.
func planWith(p Prog, name string) (plan, bool) {
	pl, err := planOf(p)
	if err != nil {
		return plan{}, false
	}
	if _, ok := pl.ops[name]; !ok {
		return plan{}, false
	}
	return pl, true
}

// opsByName returns what each block does, by its name.
func opsByName(blocks []Block) (map[string][]op, error) {
	byName := map[string][]op{}
	for _, b := range blocks {
		if _, twice := byName[b.Name]; twice || !isName(b.Name) {
			return nil, partError{b.Name, errName}
		}
		ops, err := readOps(b.Ops)
		if err != nil {
			return nil, partError{b.Name, err}
		}
		byName[b.Name] = ops
	}
	return byName, nil
}

// canJoin reports whether an edge lies between two blocks and is new.
func (pl plan) canJoin(e Edge) bool {
	_, from := pl.ops[e.From]
	_, to := pl.ops[e.To]
	_, twice := pl.out[e.From][e.To]
	return from && to && !twice
}

// checkEnds returns what is wrong with the entry, the exit, or the ways between them.
func (pl plan) checkEnds(entry string, exit string) error {
	if len(pl.ops[entry]) > 0 || len(pl.in[entry]) > 0 {
		return partError{entry, errEntry}
	}
	if len(pl.out[exit]) > 0 {
		return partError{exit, errExit}
	}
	ahead, behind := pl.out.reach(entry), pl.in.reach(exit)
	for name := range pl.ops {
		if !ahead[name] || !behind[name] {
			return errLost
		}
	}
	return nil
}

// put adds the index of an edge.
func (l links) put(here string, there string, index int) {
	if l[here] == nil {
		l[here] = map[string]int{}
	}
	l[here][there] = index
}

// namesAt returns the blocks at the other ends. They are sorted by the edges, since a map has no order of its own.
func (l links) namesAt(name string) string {
	index := l[name]
	names := slices.SortedFunc(maps.Keys(index), func(a string, b string) int {
		return index[a] - index[b]
	})
	return strings.Join(names, "")
}

// reach returns the blocks to which links lead from a block, and the block itself.
func (l links) reach(name string) map[string]bool {
	found := map[string]bool{name: true}
	left := []string{name}
	for len(left) > 0 {
		here := left[len(left)-1]
		left = left[:len(left)-1]
		for there := range l[here] {
			if !found[there] {
				found[there] = true
				left = append(left, there)
			}
		}
	}
	return found
}

// readOps returns the ops that letters tell.
func readOps(text string) ([]op, error) {
	if len(text) > MaxOps {
		return nil, errOps
	}
	var ops []op
	for i := range len(text) {
		c := text[i]
		switch {
		case 'x' <= c && c <= 'z':
			ops = append(ops, computes{c})
		case 'X' <= c && c <= 'Z':
			ops = append(ops, spoils{c - 'X' + 'x'})
		default:
			return nil, partError{text, errOps}
		}
	}
	return ops, nil
}

// writeOps returns the letters of ops.
func writeOps(ops []op) string {
	var text strings.Builder
	for _, o := range ops {
		text.WriteByte(o.letter())
	}
	return text.String()
}

// swapIn returns ops in which two terms stand for each other.
func swapIn(ops []op, t byte, u byte) []op {
	var list []op
	for _, o := range ops {
		switch o := o.(type) {
		case computes:
			list = append(list, computes{otherTerm(o.term, t, u)})
		case spoils:
			list = append(list, spoils{otherTerm(o.term, t, u)})
		}
	}
	return list
}

// otherTerm returns u for t, t for u, and any other term as it is.
func otherTerm(term byte, t byte, u byte) byte {
	switch term {
	case t:
		return u
	case u:
		return t
	}
	return term
}

// readProg returns the program that a text tells, or why there is none.
func readProg(text string) (Prog, error) {
	head, tail, found := strings.Cut(text, ":")
	if !found {
		return Prog{}, partError{text, errColon}
	}
	var p Prog
	// One part more than the limit is enough to find that there are too many, however long the text is.
	for _, part := range strings.SplitN(head, ",", MaxBlocks+1) {
		if part == "" {
			return Prog{}, partError{head, errName}
		}
		p.Blocks = append(p.Blocks, Block{Name: part[:1], Ops: part[1:]})
	}
	for _, part := range strings.SplitN(tail, ",", MaxEdges+1) {
		if len(part) != 2 {
			return Prog{}, partError{tail, errEdge}
		}
		p.Edges = append(p.Edges, Edge{From: part[:1], To: part[1:]})
	}
	if _, err := planOf(p); err != nil {
		return Prog{}, partError{text, err}
	}
	return p, nil
}
