package tests

import (
	"fmt"
	"math/rand"
	"slices"
	"strings"
	"testing"

	"loop.example/confluence/impl"
)

func TestLimitOfSessions(t *testing.T) {
	if impl.SessionMax != 60 {
		t.Error(impl.SessionMax)
	}
}

func TestP50TheSessionOfTheDocument(t *testing.T) {
	mustAnswer(t, documentSession()...)
}

func TestP50NoLines(t *testing.T) {
	if out := impl.Session(nil); out != "" {
		t.Errorf("%q", out)
	}
	if out := impl.Session([]string{}); out != "" {
		t.Errorf("%q", out)
	}
}

func TestP50OutputDependsOnlyOnPrecedingLines(t *testing.T) {
	r := rand.New(rand.NewSource(50))
	for i := 0; i < 60; i++ {
		lines := someSession(r, 1+r.Intn(75))
		whole := impl.Session(lines)
		for n := range lines {
			if part := impl.Session(lines[:n]); !strings.HasPrefix(whole, part) {
				t.Fatalf("the first %d lines of %q give %q, all of them %q", n, lines, part, whole)
			}
		}
	}
}

func TestP50SessionsAreWhatTheLinesSay(t *testing.T) {
	r := rand.New(rand.NewSource(9))
	for i := 0; i < 400; i++ {
		lines := someSession(r, 20+r.Intn(50))
		if got, want := impl.Session(lines), sessionModel(lines); got != want {
			t.Fatalf("Session(%q) is %q instead of %q", lines, got, want)
		}
	}
}

func TestP50EveryLineIsAnsweredAlone(t *testing.T) {
	for nodes := 1; nodes <= 4; nodes++ {
		for clients := 0; clients <= 4; clients++ {
			for _, line := range goodLines() {
				lines := []string{fmt.Sprint("world ", nodes, " ", clients), line, "hist", "safe"}
				if got, want := impl.Session(lines), sessionModel(lines); got != want {
					t.Errorf("Session(%q) is %q instead of %q", lines, got, want)
				}
			}
		}
	}
}

func TestP50TheFirstLine(t *testing.T) {
	for nodes := 0; nodes <= 6; nodes++ {
		for clients := 0; clients <= 6; clients++ {
			line := fmt.Sprint("world ", nodes, " ", clients)
			want := "ok\nok\n"
			if nodes < 1 || nodes > 4 || clients > 4 {
				want = "wrong\n"
			}
			if out := impl.Session([]string{line, "safe"}); out != want {
				t.Errorf("behind %q: %q", line, out)
			}
			// The clients that there are can be asked for, and no other.
			if out := impl.Session([]string{line, fmt.Sprint("knows ", clients)}); want != "wrong\n" && out != "ok\nwhat\n" {
				t.Errorf("behind %q: %q", line, out)
			}
		}
	}
}

func TestP50AFirstLineThatIsWrong(t *testing.T) {
	list := []string{"", " ", "world", "world ", "world 1", "world 3 3 3", "worlds 3 3", "World 3 3", "world 3 3\n", "world\n3 3", "world 1 999999", "world 999999 1", "world -1 1", "world 1 -1"}
	list = append(list, brokenLines("world 2 3")...)
	list = append(list, goodLines()...)
	for _, word := range badNumbers() {
		list = append(list, withNumber("world 2 3", word)...)
	}
	for _, line := range list {
		for _, behind := range [][]string{nil, {"safe"}, {"world 3 3", "safe"}, {"what"}, slices.Repeat([]string{"world 1 1"}, 70)} {
			if out := impl.Session(append([]string{line}, behind...)); out != "wrong\n" {
				t.Errorf("%q and %q behind it give %q", line, behind, out)
			}
		}
	}
}

func TestP50ASecondWorld(t *testing.T) {
	mustAnswer(t,
		exchange{"world 1 1", "ok\n"}, exchange{"write 0 2 =a", "ok\n"}, exchange{"world 1 1", "what\n"}, exchange{"world 2 2", "what\n"},
		exchange{"world", "what\n"}, exchange{"world 9 9", "what\n"}, exchange{"node 0 0", "? ? =a ?\n"}, exchange{"node 0 1", "what\n"},
		exchange{"knows 1", "what\n"})
}

func TestP50AtMostSessionMaxLines(t *testing.T) {
	for _, n := range []int{58, 59, 60, 61, 62, 100, 1000} {
		lines := []string{"world 1 1"}
		for len(lines) < n {
			lines = append(lines, fmt.Sprint("knows ", len(lines)%2))
		}
		out := impl.Session(lines)
		if got := strings.Count(out, "\n"); got != min(n, 60) {
			t.Errorf("%d lines give %d", n, got)
		}
		if out != sessionModel(lines) {
			t.Errorf("%d lines give %q", n, out)
		}
	}
	// Also lines that are none, and those without output, are executed.
	for _, line := range []string{"what", "", "hist", "safe"} {
		lines := append([]string{"world 1 1"}, slices.Repeat([]string{line}, 58)...)
		out := impl.Session(lines)
		last := impl.Session(append(lines, "node 0 0"))
		if last != out+"? ? ? ?\n" {
			t.Errorf("the last line behind %q gives %q", line, last)
		}
		if more := impl.Session(append(lines, "node 0 0", "node 0 0")); more != last {
			t.Errorf("one more line behind %q gives %q", line, more)
		}
	}
}

func TestP50TextsThatAreEmptyOrGone(t *testing.T) {
	mustAnswer(t,
		exchange{"world 1 1", "ok\n"}, exchange{"node 0 0", "? ? ? ?\n"},
		exchange{"write 0 1 -", "ok\n"}, exchange{"node 0 0", "? - ? ?\n"}, exchange{"ask 0", "ok\n"},
		exchange{"write 0 1 =", "ok\n"}, exchange{"node 0 0", "? = ? ?\n"}, exchange{"ask 0", "ok\n"},
		exchange{"write 0 3 =", "ok\n"}, exchange{"node 0 0", "? = ? =\n"}, exchange{"ask 0", "ok\n"},
		exchange{"write 0 0 -", "ok\n"}, exchange{"node 0 0", "- = ? =\n"}, exchange{"ask 0", "ok\n"},
		exchange{"write 0 1 -", "ok\n"}, exchange{"node 0 0", "- - ? =\n"}, exchange{"ask 0", "ok\n"},
		exchange{"hist", "0 write 1 1.0\n0 sure 1 1.0\n0 write 1 2.0\n0 sure 1 2.0\n0 write 3 3.0\n0 sure 3 3.0\n0 write 0 4.0\n0 sure 0 4.0\n0 write 1 5.0\n0 sure 1 5.0\n"})
}

func TestP50WhichTextsCanBeWritten(t *testing.T) {
	for rest, want := range map[string]string{
		"=a": "ok\n", "==": "ok\n", "=-": "ok\n", "=a=b": "ok\n", "=a-b": "ok\n", "=-1": "ok\n", "=?": "ok\n", "=12345678": "ok\n", "========": "ok\n",
		"=!~": "ok\n", "=what": "ok\n", "=0": "ok\n",
		"=123456789": "no\n", "==========": "no\n", "=a\tb": "no\n", "=\n": "no\n", "=a\n": "no\n", "=\x00": "no\n", "=\x1f": "no\n", "=\x7f": "no\n", "=\xff": "no\n", "=\u00e9": "no\n",
		"=a b": "what\n", "= ": "what\n", "= a": "what\n", "=a ": "what\n", " =a": "what\n", "- ": "what\n", "- a": "what\n",
		"": "what\n", "a": "what\n", "--": "what\n", "-a": "what\n", "-=a": "what\n", "-\n": "what\n", "?": "what\n", "0": "what\n",
	} {
		line := "write 0 2 " + rest
		shown := "? ? ? ?\n"
		if want == "ok\n" {
			shown = "? ? " + rest + " ?\n"
		}
		mustAnswer(t, exchange{"world 1 1", "ok\n"}, exchange{line, want}, exchange{"node 0 0", shown})
	}
	mustFollow(t, []string{"world 1 1"}, "write 0 2 ="+strings.Repeat("a", 100000), "no\n")
}

func TestP50Numbers(t *testing.T) {
	before := []string{"world 3 3"}
	for _, line := range goodLines() {
		for _, word := range badNumbers() {
			for _, other := range withNumber(line, word) {
				mustFollow(t, before, other, "what\n")
			}
		}
	}
	// Numbers of six digits are numbers, but nothing in a world has them.
	for _, n := range []string{"9", "10", "99999", "100000", "999999"} {
		for _, line := range goodLines() {
			want := "no\n"
			if word := strings.Split(line, " ")[0]; word == "knows" || word == "node" || word == "calm" && n != "9" && n != "10" {
				want = "what\n"
			} else if word == "calm" {
				want = "ok\n"
			}
			for _, other := range withNumber(line, n) {
				mustFollow(t, before, other, want)
			}
		}
	}
	for _, line := range []string{"write 0 0 =a", "read 0 0 0", "all 0", "move 0 0", "fall 0 0", "join 0", "calm 0"} {
		mustFollow(t, before, line, "ok\n")
	}
}

func TestP50LinesThatAreNone(t *testing.T) {
	before := []string{"world 3 3", "write 0 1 =a", "pass 0 0", "pass 0 1", "send 0 1 0"}
	list := []string{"", " ", "  ", "\n", "what", "help", "ok", "no", "wrong", "0", "=a", "-", "safe\n", "same\n", "hist\n", "safe\r", "safe\nsafe", "ask\n0", "ask 0\n", "knows 0\n", "node 0\n0", "event 0", "Write 0 1 =a", "reads 0 0 1", "rea 0 0 1", "\xff", "\x00", strings.Repeat(" ", 10000), strings.Repeat("safe ", 10000)}
	for _, line := range goodLines() {
		list = append(list, brokenLines(line)...)
	}
	state := []string{"hist", "node 0 0", "node 0 1", "node 0 2", "node 1 0", "knows 0", "knows 1", "knows 2", "keep 0", "take 1 0", "node 1 0"}
	want := impl.Session(append(slices.Clone(before), state...))[len(impl.Session(before)):]
	for _, line := range list {
		mustFollow(t, before, line, "what\n")
		// And nothing has changed.
		lines := append(append(slices.Clone(before), line), state...)
		if out := impl.Session(lines); out != impl.Session(before)+"what\n"+want {
			t.Errorf("%q changes the world: %q", line, out)
		}
	}
}

func TestP50LinesNearThoseThatAreSome(t *testing.T) {
	before := []string{"world 2 2", "write 0 1 =a", "pass 0 0"}
	for _, line := range goodLines() {
		for i, other := range neighbours(line) {
			if i%3 != 0 {
				continue
			}
			lines := append(slices.Clone(before), other, "node 0 0")
			if got, want := impl.Session(lines), sessionModel(lines); got != want {
				t.Errorf("Session(%q) is %q instead of %q", lines, got, want)
			}
		}
	}
}

func TestP50EventsThatAreNotPossible(t *testing.T) {
	// A line that is an event gives no, one that is none gives what.
	mustAnswer(t,
		exchange{"world 2 1", "ok\n"}, exchange{"ask 0", "no\n"}, exchange{"ask 1", "no\n"}, exchange{"ask", "what\n"},
		exchange{"write 0 4 =a", "no\n"}, exchange{"write 1 0 =a", "no\n"}, exchange{"write 0 0", "what\n"},
		exchange{"read 0 2 0", "no\n"}, exchange{"read 0 0 4", "no\n"}, exchange{"read 0 0", "what\n"},
		exchange{"move 0 3", "no\n"}, exchange{"pass 0 0", "no\n"}, exchange{"pass 3 0", "no\n"}, exchange{"fall 0 2", "no\n"},
		exchange{"join 3", "no\n"}, exchange{"take 0 1", "no\n"}, exchange{"take 0 0", "no\n"}, exchange{"send 0 1 0", "no\n"},
		exchange{"hear 0", "no\n"}, exchange{"lose 0", "no\n"}, exchange{"keep 0", "no\n"}, exchange{"hist", ""},
		exchange{"write 0 0 =a", "ok\n"}, exchange{"write 0 0 =a", "no\n"}, exchange{"read 0 0 0", "no\n"}, exchange{"all 0", "no\n"},
		exchange{"move 0 1", "no\n"}, exchange{"ask 0", "no\n"}, exchange{"hist", "0 write 0 1.0\n"})
}

func TestP50EachEventHasItsFields(t *testing.T) {
	// Every number is a different one where it matters which is which.
	mustAnswer(t,
		exchange{"world 3 4", "ok\n"}, exchange{"write 2 3 =c", "ok\n"}, exchange{"node 2 0", "? ? ? =c\n"}, exchange{"pass 2 0", "ok\n"},
		exchange{"node 2 1", "? ? ? =c\n"}, exchange{"node 2 2", "? ? ? ?\n"}, exchange{"pass 2 1", "ok\n"}, exchange{"ask 2", "ok\n"},
		exchange{"knows 2", "0.0 0.0 0.0 1.2\n"}, exchange{"send 2 1 0", "ok\n"}, exchange{"send 2 0 0", "ok\n"}, exchange{"lose 1", "ok\n"},
		exchange{"hear 1", "no\n"}, exchange{"keep 0", "ok\n"}, exchange{"hear 0", "ok\n"}, exchange{"hear 0", "no\n"},
		exchange{"take 0 2", "no\n"}, exchange{"take 1 2", "ok\n"}, exchange{"node 1 0", "? ? ? =c\n"}, exchange{"join 1", "ok\n"},
		exchange{"node 1 3", "? ? ? ?\n"}, exchange{"fall 1 2", "ok\n"}, exchange{"node 1 3", "what\n"}, exchange{"move 3 2", "ok\n"},
		exchange{"read 3 0 3", "ok\n"}, exchange{"knows 3", "0.0 0.0 0.0 1.2\n"}, exchange{"move 0 2", "ok\n"}, exchange{"all 0", "ok\n"},
		exchange{"hist", "2 write 3 1.2\n2 sure 3 1.2\n3 read 3 1.2\n0 read 0 0.0\n0 read 1 0.0\n0 read 2 0.0\n0 read 3 1.2\n"})
}

func TestP50Calm(t *testing.T) {
	before := []string{"world 2 3", "write 0 1 =a"}
	for line, want := range map[string]string{"calm 0": "ok\n", "calm 1": "ok\n", "calm 79": "ok\n", "calm 80": "ok\n", "calm 81": "what\n", "calm 100": "what\n", "calm 999999": "what\n", "calm": "what\n", "calm -1": "what\n", "calm 1 1": "what\n"} {
		mustFollow(t, before, line, want)
	}
	mustAnswer(t,
		exchange{"world 2 3", "ok\n"}, exchange{"same", "ok\n"}, exchange{"write 0 1 =a", "ok\n"}, exchange{"same", "no\n"},
		exchange{"calm 0", "ok\n"}, exchange{"node 0 1", "? ? ? ?\n"}, exchange{"calm 81", "what\n"}, exchange{"node 0 1", "? ? ? ?\n"},
		exchange{"calm 1", "ok\n"}, exchange{"node 0 1", "? =a ? ?\n"}, exchange{"node 1 0", "? ? ? ?\n"}, exchange{"same", "no\n"},
		exchange{"calm 80", "ok\n"}, exchange{"node 2 1", "? =a ? ?\n"}, exchange{"same", "ok\n"}, exchange{"hist", "0 write 1 1.0\n"})
}

func TestP50HistHasNoNewlineOfItsOwn(t *testing.T) {
	mustAnswer(t,
		exchange{"world 1 2", "ok\n"}, exchange{"hist", ""}, exchange{"hist", ""}, exchange{"safe", "ok\n"}, exchange{"hist", ""},
		exchange{"read 1 0 2", "ok\n"}, exchange{"hist", "1 read 2 0.0\n"}, exchange{"what", "what\n"}, exchange{"hist", "1 read 2 0.0\n"},
		exchange{"write 0 3 -", "ok\n"}, exchange{"hist", "1 read 2 0.0\n0 write 3 1.0\n"}, exchange{"safe", "ok\n"}, exchange{"hist 0", "what\n"})
}

func TestP50AHistoryThatIsFull(t *testing.T) {
	list := []exchange{{"world 1 1", "ok\n"}}
	hist := ""
	for range 20 {
		list = append(list, exchange{"all 0", "ok\n"})
		hist += "0 read 0 0.0\n0 read 1 0.0\n0 read 2 0.0\n0 read 3 0.0\n"
	}
	mustAnswer(t, append(list, exchange{"all 0", "no\n"}, exchange{"read 0 0 0", "no\n"}, exchange{"write 0 0 =a", "no\n"}, exchange{"hist", hist}, exchange{"safe", "ok\n"})...)
}

func TestP50WhatClientsKnow(t *testing.T) {
	mustAnswer(t,
		exchange{"world 2 2", "ok\n"}, exchange{"knows 0", "0.0 0.0 0.0 0.0\n"}, exchange{"knows 1", "0.0 0.0 0.0 0.0\n"}, exchange{"knows 2", "what\n"},
		exchange{"knows 4", "what\n"}, exchange{"knows 999999", "what\n"}, exchange{"knows", "what\n"}, exchange{"knows 0 0", "what\n"},
		exchange{"write 0 2 =a", "ok\n"}, exchange{"knows 0", "0.0 0.0 0.0 0.0\n"}, exchange{"pass 0 0", "ok\n"}, exchange{"knows 0", "0.0 0.0 0.0 0.0\n"},
		exchange{"ask 0", "ok\n"}, exchange{"knows 0", "0.0 0.0 1.0 0.0\n"}, exchange{"write 0 0 -", "ok\n"}, exchange{"knows 0", "0.0 0.0 1.0 0.0\n"},
		exchange{"pass 0 0", "ok\n"}, exchange{"move 1 0", "ok\n"}, exchange{"read 1 1 0", "ok\n"}, exchange{"knows 1", "2.0 0.0 1.0 0.0\n"})
	mustAnswer(t, exchange{"world 2 0", "ok\n"}, exchange{"knows 0", "what\n"})
	mustAnswer(t, exchange{"world 1 4", "ok\n"}, exchange{"knows 3", "0.0 0.0 0.0 0.0\n"}, exchange{"knows 4", "what\n"})
}

func TestP50WhatNodesHave(t *testing.T) {
	for nodes := 1; nodes <= 4; nodes++ {
		before := []string{fmt.Sprint("world ", nodes, " 1")}
		for place := 0; place <= 4; place++ {
			for node := 0; node <= 5; node++ {
				want := "what\n"
				if place < 3 && node < nodes {
					want = "? ? ? ?\n"
				}
				mustFollow(t, before, fmt.Sprint("node ", place, " ", node), want)
			}
		}
	}
	// The head tells what it has, although it does not show that to clients.
	mustAnswer(t,
		exchange{"world 3 3", "ok\n"}, exchange{"write 0 0 =head", "ok\n"}, exchange{"node 0 0", "=head ? ? ?\n"}, exchange{"node 0 1", "? ? ? ?\n"},
		exchange{"pass 0 0", "ok\n"}, exchange{"node 0 1", "=head ? ? ?\n"}, exchange{"node 0 2", "? ? ? ?\n"}, exchange{"node 1 0", "? ? ? ?\n"},
		exchange{"fall 0 1", "ok\n"}, exchange{"node 0 0", "=head ? ? ?\n"}, exchange{"node 0 1", "? ? ? ?\n"}, exchange{"node 0 2", "what\n"},
		exchange{"pass 0 0", "ok\n"}, exchange{"fall 0 0", "ok\n"}, exchange{"node 0 0", "=head ? ? ?\n"}, exchange{"node 0 1", "what\n"},
		exchange{"join 0", "ok\n"}, exchange{"node 0 1", "=head ? ? ?\n"}, exchange{"node 1 2", "? ? ? ?\n"})
}

func TestP50AWriteThatIsLostWithTheHead(t *testing.T) {
	mustAnswer(t,
		exchange{"world 2 1", "ok\n"}, exchange{"write 0 1 =a", "ok\n"}, exchange{"fall 0 0", "ok\n"}, exchange{"node 0 0", "? ? ? ?\n"},
		exchange{"ask 0", "ok\n"}, exchange{"knows 0", "0.0 0.0 0.0 0.0\n"}, exchange{"hist", "0 write 1 1.0\n"}, exchange{"safe", "ok\n"})
}

func TestP51SessionsAreSafe(t *testing.T) {
	r := rand.New(rand.NewSource(51))
	for i := 0; i < 300; i++ {
		lines := someSession(r, 1+r.Intn(59))
		if i%3 == 0 {
			lines = someSession(r, 59)
		}
		mustFollow(t, lines, "safe", "ok\n")
	}
}

func TestP51SafeBehindEachLineOfTheDocument(t *testing.T) {
	lines := linesOf(documentSession())
	for n := 1; n <= len(lines); n++ {
		mustFollow(t, lines[:n], "safe", "ok\n")
	}
}

func TestP51SafeIsNotExecutedBehindTheLimit(t *testing.T) {
	r := rand.New(rand.NewSource(60))
	for i := 0; i < 20; i++ {
		mustFollow(t, someSession(r, 60+i), "safe", "")
	}
	mustFollow(t, []string{"world 5 1"}, "safe", "")
	if out := impl.Session([]string{"safe"}); out != "wrong\n" {
		t.Error(out)
	}
}

func TestP51SafeAndSameHaveNoNumbers(t *testing.T) {
	mustAnswer(t, exchange{"world 1 0", "ok\n"}, exchange{"safe", "ok\n"}, exchange{"same", "ok\n"}, exchange{"safe 0", "what\n"}, exchange{"same 0", "what\n"}, exchange{"safe ", "what\n"})
}
