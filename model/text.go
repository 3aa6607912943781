package model

import (
	"strconv"
	"strings"

	"dendron/api"
	"dendron/lex"
	"dendron/ratio"
)

// The words that a text is read by and written with.
const (
	wordDendron   = "dendron"
	wordVersion   = "1"
	wordFeatures  = "features"
	wordTrees     = "trees"
	wordTree      = "tree"
	wordLeaf      = "leaf"
	wordSplit     = "split"
	wordMissLeft  = "miss-left"
	wordMissRight = "miss-right"
	wordEnd       = "end"
)

// Read is the model that a text is; or the first fault, and where in the text it is.
func Read(s string) (api.Model, api.Fault) {
	r := lex.Read(s)
	m := readModel(r)
	if e, at := r.Err(); e != api.OK {
		return api.Model{}, api.Fault{Err: e, At: at}
	}
	return m, api.Fault{}
}

// readModel asks nowhere whether there is an error: behind one all counts are 0, and what is read is thrown away.
func readModel(r *lex.Reader) api.Model {
	r.Take(wordDendron)
	r.Take(wordVersion)
	r.Next()
	m := api.Model{Features: readCount(r, wordFeatures, 0, api.MaxFeatures)}
	for range readCount(r, wordTrees, 0, api.MaxTrees) {
		m.Trees = append(m.Trees, readTree(r))
	}
	r.Take(wordEnd)
	r.Next()
	r.End()
	return m
}

// readCount reads a line of a name and how many there are.
func readCount(r *lex.Reader, name string, least, most int) int {
	r.Take(name)
	n := r.Count(least, most)
	r.Next()
	return n
}

func readTree(r *lex.Reader) []api.Node {
	var out []api.Node
	for range readCount(r, wordTree, 1, api.MaxNodes) {
		out = append(out, readNode(r))
	}
	return out
}

func readNode(r *lex.Reader) api.Node {
	var n api.Node
	n.Leaf = r.Pick(wordLeaf, wordSplit) == 0
	if n.Leaf {
		n.Value = readNumber(r)
	} else {
		n.Feature = r.Count(0, api.MaxFeatures)
		n.Cut = readNumber(r)
		n.Left = r.Count(0, api.MaxNodes)
		n.Right = r.Count(0, api.MaxNodes)
		n.Miss = r.Pick(wordMissLeft, wordMissRight) == 0
	}
	n.Cover = readNumber(r)
	r.Next()
	return n
}

func readNumber(r *lex.Reader) api.Rat {
	a, e := ratio.Parse(r.Word())
	r.Fail(e)
	return a
}

// Write is a model's text.
func Write(m api.Model) (string, api.Errno) {
	if !Fits(m) {
		return "", api.ErrArg
	}
	var out strings.Builder
	writeLine(&out, wordDendron, wordVersion)
	writeLine(&out, wordFeatures, strconv.Itoa(m.Features))
	writeLine(&out, wordTrees, strconv.Itoa(len(m.Trees)))
	for _, t := range m.Trees {
		writeLine(&out, wordTree, strconv.Itoa(len(t)))
		for _, n := range t {
			writeLine(&out, nodeWords(n)...)
		}
	}
	writeLine(&out, wordEnd)
	return out.String(), api.OK
}

func writeLine(out *strings.Builder, words ...string) {
	out.WriteString(strings.Join(words, " "))
	out.WriteByte('\n')
}

func nodeWords(n api.Node) []string {
	cover := ratio.Print(n.Cover)
	if n.Leaf {
		return []string{wordLeaf, ratio.Print(n.Value), cover}
	}
	miss := wordMissRight
	if n.Miss {
		miss = wordMissLeft
	}
	return []string{wordSplit, strconv.Itoa(n.Feature), ratio.Print(n.Cut), strconv.Itoa(n.Left), strconv.Itoa(n.Right), miss, cover}
}
