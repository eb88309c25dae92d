package tests

import (
	"fmt"
	"math/rand"
	"slices"
	"strings"
	"testing"

	"loop.example/confluence/impl"
)

// exchange is a line and its output.
type exchange struct {
	line string
	out  string
}

// mustAnswer holds a session against the output of each of its lines, and each beginning
// of it against the output up to there.
func mustAnswer(t *testing.T, list ...exchange) {
	t.Helper()
	var lines []string
	want := ""
	for _, x := range list {
		lines = append(lines, x.line)
		want += x.out
		if got := impl.Session(lines); got != want {
			t.Fatalf("Session(%q) is %q instead of %q", lines, got, want)
		}
	}
}

// mustFollow is for a last line whose output is to be checked alone.
func mustFollow(t *testing.T, before []string, line string, want string) {
	t.Helper()
	out := impl.Session(before)
	if got := impl.Session(append(slices.Clone(before), line)); got != out+want {
		t.Errorf("behind %q, %q gives %q instead of %q", before, line, strings.TrimPrefix(got, out), want)
	}
}

// documentSession is the example of the document.
func documentSession() []exchange {
	hist := "0 write 1 1.0\n1 read 1 0.0\n0 sure 1 1.0\n0 read 1 1.0\n1 read 1 0.0\n1 read 1 1.0\n1 write 2 2.1\n1 sure 2 2.1\n" +
		"2 read 2 0.0\n2 read 2 2.1\n2 read 0 0.0\n2 read 1 1.0\n2 read 2 2.1\n2 read 3 0.0\n"
	return []exchange{
		{"world 3 3", "ok\n"}, {"write 0 1 =a", "ok\n"}, {"read 1 0 1", "ok\n"}, {"ask 0", "no\n"},
		{"pass 0 0", "ok\n"}, {"ask 0", "ok\n"}, {"read 0 0 1", "ok\n"}, {"pass 0 1", "ok\n"},
		{"send 0 1 0", "ok\n"}, {"hear 0", "ok\n"}, {"take 1 0", "ok\n"}, {"pass 1 0", "ok\n"},
		{"read 1 2 1", "ok\n"}, {"read 1 1 1", "ok\n"}, {"write 1 2 =b", "no\n"}, {"pass 1 1", "ok\n"},
		{"write 1 2 =b", "ok\n"}, {"pass 1 0", "ok\n"}, {"fall 1 1", "ok\n"}, {"pass 1 0", "ok\n"},
		{"ask 1", "ok\n"}, {"knows 1", "0.0 1.0 2.1 0.0\n"}, {"node 1 1", "? =a =b ?\n"}, {"send 1 2 0", "ok\n"},
		{"hear 0", "ok\n"}, {"take 2 1", "no\n"}, {"send 0 2 0", "ok\n"}, {"keep 0", "ok\n"},
		{"lose 0", "ok\n"}, {"take 2 0", "ok\n"}, {"read 2 0 2", "ok\n"}, {"calm 9", "ok\n"},
		{"read 2 0 2", "ok\n"}, {"all 2", "ok\n"}, {"safe", "ok\n"}, {"same", "ok\n"},
		{"hist", hist}, {"what", "what\n"},
	}
}

func linesOf(list []exchange) []string {
	var lines []string
	for _, x := range list {
		lines = append(lines, x.line)
	}
	return lines
}

// goodLines is a line of each form; not all of the events are possible in a new world.
func goodLines() []string {
	return []string{
		"write 0 1 =ab", "write 0 1 =", "write 0 1 -", "ask 0", "read 1 0 1", "all 2", "move 1 2", "pass 0 0", "fall 1 0",
		"join 2", "take 1 0", "send 0 1 0", "hear 0", "lose 0", "keep 0", "calm 3", "safe", "same", "hist", "knows 1", "node 0 1",
	}
}

// brokenLines is lines that have no form, made from a line that has one.
func brokenLines(line string) []string {
	list := []string{" " + line, line + " ", line + " 0", line + " =a", line + " x", line + "  ", strings.ToUpper(line), "x" + line, "\t" + line, "\n" + line}
	words := strings.Split(line, " ")
	for i := range words {
		less := slices.Delete(slices.Clone(words), i, i+1)
		list = append(list, strings.Join(less, " "))
		twice := slices.Insert(slices.Clone(words), i, words[i])
		list = append(list, strings.Join(twice, " "))
		if i > 0 {
			list = append(list, strings.Join(words[:i], " ")+"  "+strings.Join(words[i:], " "))
			list = append(list, strings.Join(words[:i], " ")+"\t"+strings.Join(words[i:], " "))
		}
	}
	return list
}

// badNumbers is words that are no numbers of a line.
func badNumbers() []string {
	return []string{"", "-", "+", "-0", "+0", "-1", "+1", "00", "01", "007", "0000001", "1000000", "9999999", "99999999999999999999", "18446744073709551616", "1.0", "1e1", "0x1", "1_0", "a", "1a", "=1", "\xff", "１", "1\n", "\n1"}
}

// withNumber is the line with each of its numbers in turn replaced by the word.
func withNumber(line string, word string) []string {
	var list []string
	words := strings.Split(line, " ")
	for i, w := range words {
		if len(w) == 1 && w[0] >= '0' && w[0] <= '9' {
			other := slices.Clone(words)
			other[i] = word
			list = append(list, strings.Join(other, " "))
		}
	}
	return list
}

// eventLine is a line that stands for an event.
func eventLine(e impl.Event) string {
	if e.Kind == impl.EventWrite {
		rest := "=" + e.Text
		if e.Gone {
			rest = "-"
		}
		return fmt.Sprintf("write %d %d %s", e.At, e.Key, rest)
	}
	for _, form := range lineForms() {
		word, _, _ := strings.Cut(form, " ")
		if eventKinds()[word] != e.Kind {
			continue
		}
		line := word
		for _, n := range []int{e.At, e.Num, e.Key}[:strings.Count(form, "N")] {
			line += fmt.Sprint(" ", n)
		}
		return line
	}
	return ""
}

// someLine is a line that is often possible in the world, and sometimes none.
func someLine(r *rand.Rand, w impl.World) string {
	n := func() int { return r.Intn(5) }
	switch r.Intn(14) {
	case 0:
		return fmt.Sprint("knows ", n())
	case 1:
		return fmt.Sprint("node ", n(), " ", n())
	case 2:
		return []string{"safe", "same", "hist"}[r.Intn(3)]
	case 3:
		return []string{"calm 0", "calm 1", "calm 2", "calm 12", "calm 81"}[r.Intn(5)]
	case 4:
		list := brokenLines(goodLines()[r.Intn(len(goodLines()))])
		return list[r.Intn(len(list))]
	}
	return eventLine(someEvent(r, w))
}

// someSession is that many lines that are chosen along the way, by the model.
func someSession(r *rand.Rand, length int) []string {
	nodes, clients := 1+r.Intn(4), r.Intn(5)
	lines := []string{fmt.Sprint("world ", nodes, " ", clients)}
	w := newWorldModel(nodes, clients)
	for len(lines) < length {
		line := someLine(r, w)
		lines = append(lines, line)
		for _, form := range lineForms() {
			if p, ok := parseModel(form, line); ok {
				w, _ = lineModel(w, p)
			}
		}
	}
	return lines
}
