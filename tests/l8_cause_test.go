package tests

import (
	"cmp"
	"math/rand"
	"slices"
	"testing"

	"loop.example/confluence/impl"
)

// threeWrites is a write of key 1, one of key 2 by a client that read it, one of key 2
// again by a client that read that one, and one of key 3 by a client that saw only the
// last; key 1 and the first write of key 2 are causes of the last write through others.
func threeWrites() []impl.Done {
	return []impl.Done{
		wrote(0, 1, tagAt(1, 0)), hasRead(1, 1, tagAt(1, 0)),
		wrote(1, 2, tagAt(2, 1)), hasRead(2, 2, tagAt(2, 1)),
		wrote(2, 2, tagAt(3, 2)), hasRead(3, 2, tagAt(3, 2)),
		wrote(3, 3, tagAt(4, 0)),
	}
}

// writesAside is two writes of one key and time of which nothing is known, and a write
// by a client that has read both, of which the later one hides the other.
func writesAside() []impl.Done {
	return []impl.Done{
		wrote(0, 1, tagAt(1, 0)), wrote(1, 1, tagAt(1, 1)), wrote(0, 0, tagAt(1, 2)),
		hasRead(2, 1, tagAt(1, 0)), hasRead(2, 1, tagAt(1, 1)), wrote(2, 3, tagAt(2, 2)),
	}
}

// causeList is consistent histories with all edges that the document names.
func causeList() [][]impl.Done {
	r := rand.New(rand.NewSource(46))
	list := append(consistentList(), threeWrites(), writesAside())
	for i := 0; i < 20; i++ {
		list = append(list, someCauses(r, 10+r.Intn(50)))
	}
	return list
}

// someCauses is a consistent history with long ways from a write to its causes.
func someCauses(r *rand.Rand, length int) []impl.Done {
	var list []impl.Done
	for time := 1; len(list) < length; time++ {
		sess, key, tag := r.Intn(4), r.Intn(4), tagAt(time, r.Intn(3))
		list = append(list, wrote(sess, key, tag))
		for i := r.Intn(3); i > 0; i-- {
			more := append(slices.Clone(list), hasRead(r.Intn(4), key, tag))
			if _, far := accountModel(more); far == len(more) {
				list = more
			}
		}
	}
	return list[:length]
}

// tagsAround is the tags of a history, and some that were not written.
func tagsAround(causes map[impl.Tag]impl.Past) []impl.Tag {
	list := []impl.Tag{{}, tagAt(999, 2), tagAt(1000, 0), tagAt(-1, 0), tagAt(1, 3), tagAt(0, 1)}
	for tag := range causes {
		list = append(list, tag, tagAt(tag.Time, (tag.Place+1)%3))
	}
	slices.SortFunc(list, compareTags)
	return slices.Compact(list)
}

func compareTags(a impl.Tag, b impl.Tag) int {
	return cmp.Or(cmp.Compare(a.Time, b.Time), cmp.Compare(a.Place, b.Place))
}

// failing is histories for which HistOk fails, by what is wrong with them.
func failing() map[string][]impl.Done {
	list := badHists()
	for name, hist := range inconsistentList() {
		list[name] = hist
	}
	return list
}

func TestP46DependenciesPrecedeAWrite(t *testing.T) {
	for _, list := range causeList() {
		causes := causesModel(list)
		for _, tag := range tagsAround(causes) {
			past, ok := impl.CauseOf(list, tag)
			want, written := causes[tag]
			if ok != written || !samePast(past, want) {
				t.Fatalf("CauseOf(%v, %v) is %v, %v instead of %v, %v", list, tag, past, ok, want, written)
			}
			for _, cause := range past.Tags {
				if cause.Time == 0 {
					continue
				}
				if _, known := causes[cause]; !known || !impl.TagLess(cause, tag) || !impl.CauseAhead(list, cause, tag) {
					t.Errorf("%v is a cause of %v in %v", cause, tag, list)
				}
			}
		}
	}
}

func TestP46WhatAWriteDependsOn(t *testing.T) {
	zero := impl.Tag{}
	list := append(threeWrites(), hasRead(3, 1, tagAt(1, 0)), wrote(0, 0, tagAt(9, 1)))
	for tag, want := range map[impl.Tag]impl.Past{
		tagAt(1, 0): impl.PastNone(),
		tagAt(2, 1): pastOf(zero, tagAt(1, 0), zero, zero),
		tagAt(3, 2): pastOf(zero, tagAt(1, 0), tagAt(2, 1), zero),
		tagAt(4, 0): pastOf(zero, tagAt(1, 0), tagAt(3, 2), zero),
		tagAt(9, 1): impl.PastNone(),
	} {
		if past, ok := impl.CauseOf(list, tag); !ok || !samePast(past, want) {
			t.Errorf("CauseOf %v is %v, %v", tag, past, ok)
		}
	}
	// A client that was not sure of its own write does not depend on it.
	own := []impl.Done{wrote(0, 1, tagAt(1, 0)), wrote(0, 2, tagAt(2, 0)), sure(0, 2, tagAt(2, 0)), wrote(0, 3, tagAt(3, 0))}
	if past, ok := impl.CauseOf(own, tagAt(3, 0)); !ok || !samePast(past, pastOf(zero, zero, tagAt(2, 0), zero)) {
		t.Error(past, ok)
	}
}

func TestP46HistoriesThatFail(t *testing.T) {
	for name, list := range failing() {
		for _, tag := range []impl.Tag{{}, tagAt(1, 0), tagAt(2, 1), tagAt(3, 0), tagAt(900, 2)} {
			if past, ok := impl.CauseOf(list, tag); ok || past.Tags != nil {
				t.Errorf("%s: CauseOf(%v, %v) is %v, %v", name, list, tag, past, ok)
			}
		}
	}
	for _, list := range [][]impl.Done{nil, {}, readsOfNothing(0, 80)} {
		if past, ok := impl.CauseOf(list, impl.Tag{}); ok || past.Tags != nil {
			t.Errorf("CauseOf(%v) of the zero Tag is %v, %v", list, past, ok)
		}
	}
}

// aheadIn asks CauseAhead about all pairs of those tags.
func aheadIn(list []impl.Done, tags []impl.Tag) map[pair]bool {
	ahead := map[pair]bool{}
	for _, first := range tags {
		for _, then := range tags {
			if impl.CauseAhead(list, first, then) {
				ahead[pair{first, then}] = true
			}
		}
	}
	return ahead
}

func TestP47HappenedBeforeIsAStrictPartialOrder(t *testing.T) {
	through := 0
	for _, list := range causeList() {
		causes := causesModel(list)
		tags := tagsAround(causes)
		ahead := aheadIn(list, tags)
		want := aheadModel(causes)
		for _, first := range tags {
			for _, then := range tags {
				p := pair{first, then}
				if ahead[p] != want[p] {
					t.Fatalf("CauseAhead(%v, %v, %v) is %v", list, first, then, ahead[p])
				}
				if ahead[p] && !slices.Contains(causes[then].Tags, first) {
					through++
				}
			}
		}
		mustBeAStrictOrder(t, ahead)
	}
	if through < 100 {
		t.Error("too few writes that are causes only through others:", through)
	}
}

func mustBeAStrictOrder(t *testing.T, ahead map[pair]bool) {
	t.Helper()
	for p := range ahead {
		if p.first == p.then || ahead[pair{p.then, p.first}] || !impl.TagLess(p.first, p.then) {
			t.Errorf("%v happened before %v", p.first, p.then)
		}
		for q := range ahead {
			if p.then == q.first && !ahead[pair{p.first, q.then}] {
				t.Errorf("%v happened before %v, that before %v", p.first, p.then, q.then)
			}
		}
	}
}

func TestP47CausesThroughOthers(t *testing.T) {
	list := threeWrites()
	all := []impl.Tag{tagAt(1, 0), tagAt(2, 1), tagAt(3, 2), tagAt(4, 0)}
	for i, first := range all {
		for j, then := range all {
			if got := impl.CauseAhead(list, first, then); got != (i < j) {
				t.Errorf("%v ahead of %v: %v", first, then, got)
			}
		}
	}
	// The last write depends on the second one only through the third one, which hides it.
	if past, ok := impl.CauseOf(list, all[3]); !ok || slices.Contains(past.Tags, all[1]) {
		t.Error(past, ok)
	}
}

func TestP47WritesThatAreNoCauses(t *testing.T) {
	list := writesAside()
	for _, p := range []struct {
		first, then impl.Tag
		want        bool
	}{
		{tagAt(1, 0), tagAt(1, 1), false}, {tagAt(1, 1), tagAt(1, 0), false}, {tagAt(1, 2), tagAt(2, 2), false},
		// What the client read first is hidden by a write that does not depend on it.
		{tagAt(1, 0), tagAt(2, 2), false}, {tagAt(1, 1), tagAt(2, 2), true}, {tagAt(2, 2), tagAt(1, 1), false},
		{tagAt(2, 2), tagAt(2, 2), false}, {tagAt(2, 0), tagAt(2, 2), false}, {tagAt(1, 1), tagAt(3, 0), false}, {tagAt(1, 1), tagAt(2, 1), false},
		{impl.Tag{}, tagAt(2, 2), false}, {impl.Tag{}, impl.Tag{}, false}, {tagAt(1, 1), impl.Tag{}, false},
	} {
		if got := impl.CauseAhead(list, p.first, p.then); got != p.want {
			t.Errorf("%v ahead of %v: %v", p.first, p.then, got)
		}
	}
}

func TestP47HistoriesThatFail(t *testing.T) {
	if !impl.CauseAhead(threeWrites(), tagAt(1, 0), tagAt(2, 1)) {
		t.Error("it is ahead")
	}
	for _, bad := range []impl.Done{hasRead(0, 0, tagAt(8, 0)), wrote(4, 0, tagAt(9, 0)), wrote(0, 0, tagAt(1, 0)), sure(0, 2, tagAt(2, 1))} {
		if impl.CauseAhead(append(threeWrites(), bad), tagAt(1, 0), tagAt(2, 1)) {
			t.Errorf("it is ahead, although %v does not fit", bad)
		}
	}
	for name, list := range failing() {
		for _, d := range list {
			for _, e := range list {
				if impl.CauseAhead(list, d.Tag, e.Tag) {
					t.Errorf("%s: %v is ahead of %v", name, d.Tag, e.Tag)
				}
			}
		}
	}
	if impl.CauseAhead(nil, impl.Tag{}, impl.Tag{}) || impl.CauseAhead([]impl.Done{}, tagAt(1, 0), tagAt(2, 0)) {
		t.Error("in an empty history")
	}
}

func TestP48CauseAllListsAllWrites(t *testing.T) {
	for _, list := range causeList() {
		var want []impl.Tag
		for _, d := range list {
			if d.Kind == impl.DoneWrite {
				want = append(want, d.Tag)
			}
		}
		slices.SortFunc(want, compareTags)
		got := impl.CauseAll(list)
		if !slices.Equal(got, want) {
			t.Fatalf("CauseAll(%v) is %v instead of %v", list, got, want)
		}
		for i := 1; i < len(got); i++ {
			if !impl.TagLess(got[i-1], got[i]) {
				t.Errorf("CauseAll(%v) is %v", list, got)
			}
		}
	}
}

func TestP48TheOrderIsThatOfTags(t *testing.T) {
	list := []impl.Done{wrote(0, 0, tagAt(10, 0)), wrote(1, 1, tagAt(9, 2)), wrote(2, 2, tagAt(9, 1)), wrote(3, 3, tagAt(999, 2)), hasRead(0, 1, tagAt(9, 2)), wrote(0, 1, tagAt(10, 2)), wrote(1, 0, tagAt(1, 1))}
	if got := impl.CauseAll(list); !slices.Equal(got, []impl.Tag{tagAt(1, 1), tagAt(9, 1), tagAt(9, 2), tagAt(10, 0), tagAt(10, 2), tagAt(999, 2)}) {
		t.Error(got)
	}
	for _, list := range [][]impl.Done{nil, {}, readsOfNothing(2, 80)} {
		if got := impl.CauseAll(list); len(got) != 0 {
			t.Errorf("CauseAll(%v) is %v", list, got)
		}
	}
}

func TestP48HistoriesThatFail(t *testing.T) {
	for name, list := range failing() {
		if got := impl.CauseAll(list); got != nil {
			t.Errorf("%s: CauseAll(%v) is %v", name, list, got)
		}
	}
}

func TestP49WritesAreOrderedOrConcurrent(t *testing.T) {
	for _, list := range causeList() {
		causes := causesModel(list)
		tags := tagsAround(causes)
		ahead := aheadIn(list, tags)
		for _, tag := range tags {
			apart := impl.CauseApart(list, tag)
			if _, written := causes[tag]; !written {
				if apart != -1 {
					t.Errorf("CauseApart(%v, %v) is %d", list, tag, apart)
				}
				continue
			}
			ordered := 0
			for p := range ahead {
				if p.first == tag || p.then == tag {
					ordered++
				}
			}
			if apart < 0 || apart+ordered+1 != len(causes) {
				t.Errorf("CauseApart(%v, %v) is %d, and %d of %d are ordered", list, tag, apart, ordered, len(causes))
			}
		}
	}
}

func TestP49HowManyAreApart(t *testing.T) {
	for tag, want := range map[impl.Tag]int{tagAt(1, 0): 3, tagAt(1, 1): 2, tagAt(1, 2): 3, tagAt(2, 2): 2, tagAt(2, 0): -1, {}: -1, tagAt(1000, 0): -1} {
		if got := impl.CauseApart(writesAside(), tag); got != want {
			t.Errorf("CauseApart of %v is %d instead of %d", tag, got, want)
		}
	}
	for _, tag := range impl.CauseAll(threeWrites()) {
		if got := impl.CauseApart(threeWrites(), tag); got != 0 {
			t.Errorf("CauseApart of %v is %d", tag, got)
		}
	}
	if got := impl.CauseApart([]impl.Done{wrote(0, 0, tagAt(1, 0))}, tagAt(1, 0)); got != 0 {
		t.Error("the only write:", got)
	}
	var many []impl.Done
	for i := 0; i < 80; i++ {
		many = append(many, wrote(i%4, i/4%4, tagAt(1+i/3, i%3)))
	}
	if got := impl.CauseApart(many, tagAt(1, 1)); got != 79 {
		t.Error("80 writes of which nothing is known:", got)
	}
}

func TestP49HistoriesThatFail(t *testing.T) {
	for name, list := range failing() {
		for _, tag := range []impl.Tag{{}, tagAt(1, 0), tagAt(2, 1), tagAt(3, 0)} {
			if got := impl.CauseApart(list, tag); got != -1 {
				t.Errorf("%s: CauseApart(%v, %v) is %d", name, list, tag, got)
			}
		}
	}
	if impl.CauseApart(nil, impl.Tag{}) != -1 || impl.CauseApart([]impl.Done{}, tagAt(1, 0)) != -1 {
		t.Error("in an empty history")
	}
}

// busyEvents is events of one kind of world: every client writes and asks in turn, and
// data centres may tell each other in between, so that logs become as long as they can.
func busyEvents(r *rand.Rand, sess int, telling bool) []impl.Event {
	var list []impl.Event
	for i := 0; len(list) < 60; i++ {
		at := i % sess
		list = append(list, impl.Event{Kind: impl.EventWrite, At: at, Key: r.Intn(4), Text: "b"}, impl.Event{Kind: impl.EventAsk, At: at})
		if telling && i%3 == 2 {
			from, to := r.Intn(3), r.Intn(3)
			list = append(list, impl.Event{Kind: impl.EventSend, At: from, Num: to, Key: i / 6}, impl.Event{Kind: impl.EventHear}, impl.Event{Kind: impl.EventTake, At: to, Num: from}, impl.Event{Kind: impl.EventAll, At: at})
		}
	}
	return list
}

func busyWorlds() []impl.World {
	r := rand.New(rand.NewSource(31))
	var list []impl.World
	for i := 0; i < 16; i++ {
		list = append(list, impl.WorldPlay(1, 1+i%4, busyEvents(r, 1+i%4, i%2 == 1)))
	}
	return list
}

func TestP31NodesFallWhileAllWait(t *testing.T) {
	// Clients at all data centres are sure of writes that two of four nodes have.
	var events []impl.Event
	for at := 0; at < 4; at++ {
		events = append(events, impl.Event{Kind: impl.EventWrite, At: at, Key: at, Text: "w"}, impl.Event{Kind: impl.EventPass, At: at % 3}, impl.Event{Kind: impl.EventAsk, At: at})
	}
	for node := 0; node < 4; node++ {
		w := impl.WorldNew(4, 4)
		for _, e := range append(events, impl.Event{Kind: impl.EventFall, Num: node}, impl.Event{Kind: impl.EventFall, At: 1, Num: node}, impl.Event{Kind: impl.EventFall, At: 2, Num: 3 - node}) {
			w = possibleEvents(t, w, e)
		}
		calm := impl.WorldCalm(w, 80)
		if !impl.WorldSame(calm) || !impl.WorldSafe(calm) || !slices.Equal(impl.WorldLag(calm), []int{0, 0, 0}) {
			t.Errorf("node %d falls: %v", node, calm)
		}
		for key := 0; key < 4; key++ {
			if headOf(calm.Places[key%3]).Store.Vers[key].Text != "w" {
				t.Errorf("node %d falls, and key %d is lost", node, key)
			}
		}
	}
}

func TestP31Convergence(t *testing.T) {
	longest := 0
	for _, w := range append(played(31, 240), busyWorlds()...) {
		calm := impl.WorldCalm(w, 80)
		if !impl.WorldSame(calm) || !impl.WorldSafe(calm) || !slices.Equal(impl.WorldLag(calm), []int{0, 0, 0}) {
			t.Errorf("%v does not become calm: %v", w, calm)
		}
		mustLeaveClients(t, w, calm)
		for i, p := range w.Places {
			longest = max(longest, len(p.Log))
			for key, v := range tailOf(p).Store.Vers {
				if impl.TagLess(headOf(calm.Places[2]).Store.Vers[key].Tag, v.Tag) {
					t.Errorf("%v of data centre %d is lost in %v", v, i, calm)
				}
			}
		}
	}
	if longest < 30 {
		t.Error("the longest log has only", longest)
	}
}

func TestP31NotCalmYet(t *testing.T) {
	w := storyWorld()
	if !slices.Equal(impl.WorldLag(w), []int{0, 1, 2}) || impl.WorldSame(w) {
		t.Error(impl.WorldLag(w))
	}
	calm := impl.WorldCalm(w, 80)
	if !slices.Equal(impl.WorldLag(calm), []int{0, 0, 0}) || !impl.WorldSame(calm) {
		t.Error(calm)
	}
}

func sumOf(list []int) int {
	sum := 0
	for _, n := range list {
		sum += n
	}
	return sum
}

func TestP36LagCountsMissingLogEntries(t *testing.T) {
	fewer, same := 0, 0
	for _, w := range append(worldList(), played(36, 60)...) {
		lag := impl.WorldLag(w)
		if !slices.Equal(lag, lagModel(w)) || slices.Min(lag) < 0 {
			t.Fatalf("WorldLag(%v) is %v instead of %v", w, lag, lagModel(w))
		}
		for at := range w.Net {
			x, _ := impl.WorldDo(w, impl.Event{Kind: impl.EventHear, At: at})
			switch sumOf(lag) - sumOf(impl.WorldLag(x)) {
			case 0:
				same++
			case 1:
				fewer++
			default:
				t.Errorf("the lag of %v becomes %v with frame %d", w, impl.WorldLag(x), at)
			}
		}
	}
	if fewer < 20 || same < 20 {
		t.Errorf("the lag became less %d times, and was the same %d times", fewer, same)
	}
}

func TestP36WhatWasReceivedAndWhatNot(t *testing.T) {
	for nodes := 1; nodes <= 4; nodes++ {
		if lag := impl.WorldLag(impl.WorldNew(nodes, 0)); !slices.Equal(lag, []int{0, 0, 0}) {
			t.Error("nothing was written:", lag)
		}
	}
	for me := 0; me < 3; me++ {
		w := newWorldModel(1, 0)
		w.Places[me].Log = logOfLength(me, 60, 100)
		next, last := (me+1)%3, (me+2)%3
		w.Places[last].Log = logOfLength(last, 7, 5)
		w.Places[next].Got[me] = logOfLength(me, 60, 100)
		w.Places[next].Got[last] = logOfLength(last, 7, 5)
		want := make([]int, 3)
		want[me], want[last] = 7, 60
		if lag := impl.WorldLag(w); !slices.Equal(lag, want) {
			t.Errorf("the lag is %v instead of %v", lag, want)
		}
	}
}

func TestP36InvalidWorlds(t *testing.T) {
	for name, w := range badWorlds() {
		if lag := impl.WorldLag(w); lag != nil {
			t.Errorf("%s: WorldLag is %v", name, lag)
		}
	}
}

// withRoom is a world with room for a record.
func withRoom(w impl.World) impl.World {
	out := copyOfWorld(w)
	out.Hist = out.Hist[:min(len(out.Hist), 79)]
	return out
}

func TestP35AClientReadsAtSufficientlyRecentNodes(t *testing.T) {
	all, some, none := 0, 0, 0
	for _, w := range append(worldList(), played(35, 60)...) {
		roomy := withRoom(w)
		for _, sess := range extremes() {
			for _, key := range extremes() {
				nodes := impl.WorldNodes(w, sess, key)
				if want := nodesModel(w, sess, key); !slices.Equal(nodes, want) {
					t.Fatalf("WorldNodes(%v, %d, %d) is %v instead of %v", w, sess, key, nodes, want)
				}
				for node := -1; node <= 4; node++ {
					_, ok := impl.WorldDo(roomy, impl.Event{Kind: impl.EventRead, At: sess, Num: node, Key: key})
					if ok != slices.Contains(nodes, node) {
						t.Errorf("reading of %d by %d at %d: %v, and the nodes are %v in %v", key, sess, node, ok, nodes, w)
					}
				}
				if sess < 0 || sess >= len(w.Sess) || key < 0 || key > 3 {
					continue
				}
				switch len(nodes) {
				case 0:
					none++
				case len(w.Places[w.Sess[sess].Place].Chain.Nodes):
					all++
				default:
					some++
				}
			}
		}
	}
	if all < 50 || some < 10 || none < 50 {
		t.Errorf("all nodes %d times, some %d times, none %d times", all, some, none)
	}
}

func TestP35NodesOfAStory(t *testing.T) {
	w := storyWorld()
	mustHaveNodes := func(w impl.World, sess int, key int, want ...int) {
		t.Helper()
		if got := impl.WorldNodes(w, sess, key); !slices.Equal(got, want) {
			t.Errorf("WorldNodes of %d, %d is %v instead of %v", sess, key, got, want)
		}
	}
	for key := 0; key < 4; key++ {
		mustHaveNodes(w, 0, key, 0, 1, 2)
		mustHaveNodes(w, 3, key, 0, 1, 2)
		// They wait.
		mustHaveNodes(w, 1, key)
		mustHaveNodes(w, 2, key)
		mustHaveNodes(w, -1, key)
		mustHaveNodes(w, 4, key)
	}
	for _, key := range []int{-1, 4} {
		mustHaveNodes(w, 0, key)
		mustHaveNodes(w, 1, key)
	}
	// Data centre 1 has what the client saw of key 1 at its first nodes, and nothing of
	// key 2; data centre 2 has neither.
	moved := possibleEvents(t, w, impl.Event{Kind: impl.EventMove, At: 3, Num: 1})
	mustHaveNodes(moved, 3, 1, 0, 1)
	mustHaveNodes(moved, 3, 2)
	mustHaveNodes(moved, 3, 0, 0, 1, 2)
	moved = possibleEvents(t, w, impl.Event{Kind: impl.EventMove, At: 3, Num: 2})
	mustHaveNodes(moved, 3, 1)
	mustHaveNodes(moved, 3, 2)
	mustHaveNodes(moved, 3, 3, 0, 1, 2)
	calm := impl.WorldCalm(moved, 9)
	mustHaveNodes(calm, 3, 1, 0, 1, 2)
	mustHaveNodes(calm, 3, 2, 0, 1, 2)
}

func TestP35WhatOnlyTheHeadHas(t *testing.T) {
	w := possibleEvents(t, impl.WorldNew(2, 4), impl.Event{Kind: impl.EventWrite, Key: 1, Text: "a"})
	// Its writer waits; to another client, both nodes show nothing, and it has seen nothing.
	if got := impl.WorldNodes(w, 3, 1); !slices.Equal(got, []int{0, 1}) {
		t.Error(got)
	}
	w.Sess[3].Past.Tags[1] = tagAt(1, 0)
	if got := impl.WorldNodes(w, 3, 1); len(got) != 0 {
		t.Error("the head shows what it alone has:", got)
	}
	w.Places[0] = impl.PlaceNew(0, 1)
	w.Places[0], _ = impl.PlaceWrite(w.Places[0], 1, "a", false, impl.PastNone())
	if got := impl.WorldNodes(w, 3, 1); !slices.Equal(got, []int{0}) {
		t.Error("the only node:", got)
	}
}

func TestP35InvalidWorlds(t *testing.T) {
	for name, w := range badWorlds() {
		for sess := -1; sess <= 4; sess++ {
			if got := impl.WorldNodes(w, sess, 0); got != nil {
				t.Errorf("%s: WorldNodes is %v", name, got)
			}
		}
	}
	w := storyWorld()
	for _, n := range []int{-1 << 63, -1, 4, 1<<63 - 1} {
		if a, b := impl.WorldNodes(w, n, 0), impl.WorldNodes(w, 0, n); a != nil || b != nil {
			t.Errorf("number %d: %v, %v", n, a, b)
		}
	}
	if got := impl.WorldNodes(w, 1, 3); got != nil {
		t.Error("a client that waits:", got)
	}
}

func TestP72ReadingAVersionAcquiresItsDependencies(t *testing.T) {
	gained := 0
	worlds := append(worldList(), played(72, 80)...)
	for _, w := range busyWorlds() {
		worlds = append(worlds, w, impl.WorldCalm(w, 9))
	}
	for _, w := range worlds {
		w = withRoom(w)
		for sess, s := range w.Sess {
			for key := 0; key < 4; key++ {
				nodes := impl.WorldNodes(w, sess, key)
				if len(nodes) == 0 {
					continue
				}
				last := nodes[len(nodes)-1]
				x, ok := mustDo(t, w, impl.Event{Kind: impl.EventRead, At: sess, Num: last, Key: key})
				if !ok {
					t.Fatalf("client %d cannot read %d at %d of %v", sess, key, last, w)
				}
				v, _ := impl.ChainShows(w.Places[s.Place].Chain, last, key)
				want := joined(s.Past, v)
				if !samePast(x.Sess[sess].Past, want) || !slices.Equal(x.Hist, append(slices.Clone(w.Hist), hasRead(sess, key, v.Tag))) {
					t.Errorf("client %d of %v reads %v: %v, %v", sess, w, v, x.Sess[sess], x.Hist)
				}
				if !samePast(want, s.Past) && !isNone(v) && !samePast(v.Past, impl.PastNone()) {
					gained++
				}
			}
		}
	}
	if gained < 10 {
		t.Error("too few reads of versions with dependencies:", gained)
	}
}

// joined is a vector with the tag of a version and its dependencies; the zero Ver has none.
func joined(past impl.Past, v impl.Ver) impl.Past {
	out := pastOf(slices.Clone(past.Tags)...)
	raise := func(key int, tag impl.Tag) {
		if impl.TagLess(out.Tags[key], tag) {
			out.Tags[key] = tag
		}
	}
	raise(v.Key, v.Tag)
	for key, tag := range v.Past.Tags {
		raise(key, tag)
	}
	return out
}

func TestP72TheLastNodeThatIsRecentEnough(t *testing.T) {
	zero := impl.Tag{}
	w := possibleEvents(t, impl.WorldNew(3, 4), impl.Event{Kind: impl.EventWrite, Key: 1, Text: "a"}, impl.Event{Kind: impl.EventPass}, impl.Event{Kind: impl.EventPass, Num: 1}, impl.Event{Kind: impl.EventAsk},
		impl.Event{Kind: impl.EventWrite, Key: 2, Text: "b"}, impl.Event{Kind: impl.EventPass}, impl.Event{Kind: impl.EventAsk})
	for sess, want := range map[int]int{0: 1, 3: 2} {
		nodes := impl.WorldNodes(w, sess, 2)
		if len(nodes) != want+1 || nodes[want] != want {
			t.Errorf("client %d may read at %v", sess, nodes)
		}
	}
	x := possibleEvents(t, w, impl.Event{Kind: impl.EventRead, At: 3, Num: 1, Key: 2})
	if !samePast(x.Sess[3].Past, pastOf(zero, tagAt(1, 0), tagAt(2, 0), zero)) || x.Hist[4] != hasRead(3, 2, tagAt(2, 0)) {
		t.Error(x)
	}
	x = possibleEvents(t, w, impl.Event{Kind: impl.EventRead, At: 3, Num: 2, Key: 2})
	if !samePast(x.Sess[3].Past, impl.PastNone()) || x.Hist[4] != hasRead(3, 2, zero) {
		t.Error(x)
	}
}
