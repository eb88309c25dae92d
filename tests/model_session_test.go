package tests

import (
	"fmt"
	"regexp"
	"strconv"
	"strings"

	"loop.example/confluence/impl"
)

// lineForms is the forms of the lines behind the first one. A form is written with N for
// a number and T for what a version of a key becomes.
func lineForms() []string {
	return []string{
		"write N N T", "ask N", "read N N N", "all N", "move N N", "pass N N", "fall N N", "join N", "take N N",
		"send N N N", "hear N", "lose N", "keep N", "calm N", "safe", "same", "hist", "knows N", "node N N",
	}
}

// eventKinds is the kinds of the events that have numbers alone.
func eventKinds() map[string]int {
	return map[string]int{"ask": 2, "read": 3, "all": 4, "move": 5, "pass": 6, "fall": 7, "join": 8, "take": 9, "send": 10, "hear": 11, "lose": 12, "keep": 13}
}

// parsed is a line that has a form: its first word, its numbers, and what is written.
type parsed struct {
	word    string
	numbers [3]int
	text    string
}

// parseModel says false if the line does not have the form. It looks at the first word
// by itself because a pattern is slow to make.
func parseModel(form string, line string) (parsed, bool) {
	word, _, _ := strings.Cut(form, " ")
	if !strings.HasPrefix(line, word) {
		return parsed{}, false
	}
	pattern := strings.NewReplacer("N", "(0|[1-9][0-9]{0,5})", "T", "(-|=[^ ]*)").Replace(form)
	parts := regexp.MustCompile(`\A` + pattern + `\z`).FindStringSubmatch(line)
	if parts == nil {
		return parsed{}, false
	}
	p := parsed{word: word}
	for i := range strings.Count(form, "N") {
		p.numbers[i], _ = strconv.Atoi(parts[1+i])
	}
	if strings.Contains(form, "T") {
		p.text = parts[len(parts)-1]
	}
	return p, true
}

// sessionModel is the output of lines, by the models of worlds.
func sessionModel(lines []string) string {
	if len(lines) == 0 {
		return ""
	}
	first, ok := parseModel("world N N", lines[0])
	if !ok || first.numbers[0] < 1 || first.numbers[0] > 4 || first.numbers[1] > 4 {
		return "wrong\n"
	}
	w := newWorldModel(first.numbers[0], first.numbers[1])
	out := "ok\n"
	for i := 1; i < len(lines) && i < 60; i++ {
		answer := "what\n"
		for _, form := range lineForms() {
			if p, ok := parseModel(form, lines[i]); ok {
				w, answer = lineModel(w, p)
			}
		}
		out += answer
	}
	return out
}

// lineModel is the world behind a line that has a form, and the output of that.
func lineModel(w impl.World, p parsed) (impl.World, string) {
	n := p.numbers
	if kind, ok := eventKinds()[p.word]; ok {
		return eventModel(w, impl.Event{Kind: kind, At: n[0], Num: n[1], Key: n[2]})
	}
	switch p.word {
	case "write":
		return eventModel(w, impl.Event{Kind: 1, At: n[0], Key: n[1], Text: p.text[1:], Gone: p.text == "-"})
	case "calm":
		if n[0] > 80 {
			return w, "what\n"
		}
		for range n[0] {
			w = roundModel(w)
		}
		return w, "ok\n"
	case "safe":
		return w, verdict(safeModel(w))
	case "same":
		return w, verdict(sameModel(w))
	case "hist":
		return w, histText(w.Hist)
	case "knows":
		return w, knowsModel(w, n[0])
	}
	return w, nodeModel(w, n[0], n[1])
}

func eventModel(w impl.World, e impl.Event) (impl.World, string) {
	w, ok := doModel(w, e)
	return w, verdict(ok)
}

func verdict(ok bool) string {
	return map[bool]string{true: "ok\n", false: "no\n"}[ok]
}

func safeModel(w impl.World) bool {
	_, far := accountModel(w.Hist)
	safe := far == len(w.Hist)
	for _, s := range w.Sess {
		safe = safe && within(s.Past, latestOf(w))
	}
	return safe
}

func sameModel(w impl.World) bool {
	same := true
	for _, p := range w.Places {
		for _, n := range p.Chain.Nodes {
			same = same && sameStore(n.Store, headOf(w.Places[0]).Store)
		}
	}
	return same
}

func knowsModel(w impl.World, client int) string {
	if client >= len(w.Sess) {
		return "what\n"
	}
	t := w.Sess[client].Past.Tags
	return fmt.Sprintf("%d.%d %d.%d %d.%d %d.%d\n", t[0].Time, t[0].Place, t[1].Time, t[1].Place, t[2].Time, t[2].Place, t[3].Time, t[3].Place)
}

func nodeModel(w impl.World, place int, node int) string {
	if place > 2 || node >= len(w.Places[place].Chain.Nodes) {
		return "what\n"
	}
	out := ""
	for _, v := range w.Places[place].Chain.Nodes[node].Store.Vers {
		switch {
		case v.Tag.Time == 0:
			out += " ?"
		case v.Gone:
			out += " -"
		default:
			out += " =" + v.Text
		}
	}
	return out[1:] + "\n"
}
