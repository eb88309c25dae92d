package tests

import (
	"math/rand"
	"slices"
	"testing"

	"loop.example/confluence/impl"
)

func TestLimitsAndKindsOfWorlds(t *testing.T) {
	if impl.SessMax != 4 || impl.NetMax != 12 || impl.HistMax != 80 || impl.PlayMax != 60 || impl.CalmMax != 80 {
		t.Error(impl.SessMax, impl.NetMax, impl.HistMax, impl.PlayMax, impl.CalmMax)
	}
	kinds := []int{impl.EventWrite, impl.EventAsk, impl.EventRead, impl.EventAll, impl.EventMove, impl.EventPass, impl.EventFall, impl.EventJoin, impl.EventTake, impl.EventSend, impl.EventHear, impl.EventLose, impl.EventKeep}
	for i, kind := range kinds {
		if kind != i+1 {
			t.Errorf("kind %d of events is %d", i+1, kind)
		}
	}
	if impl.DoneWrite != 1 || impl.DoneRead != 2 || impl.DoneSure != 3 {
		t.Error(impl.DoneWrite, impl.DoneRead, impl.DoneSure)
	}
}

func TestWorldOk(t *testing.T) {
	for _, w := range append(worldList(), sharedWorld()) {
		mustBeValidWorld(t, w)
	}
	for name, w := range badWorlds() {
		if impl.WorldOk(w) {
			t.Errorf("%s: WorldOk(%v) is true", name, w)
		}
	}
}

func TestWorldOkAtTheLimits(t *testing.T) {
	w := newWorldModel(4, 4)
	for me := range w.Places {
		w.Places[me].Log = logOfLength(me, 60, 940)
		for other := range w.Places {
			if other != me {
				w.Places[other].Got[me] = logOfLength(me, 60, 940)
			}
		}
	}
	for len(w.Net) < 12 {
		w.Net = append(w.Net, impl.Frame{From: 2, To: len(w.Net) % 2, At: 59, Ver: w.Places[2].Log[59]})
	}
	for i, at := range []int{0, 1, 2, 0} {
		w.Sess[i] = impl.Sess{Place: at, Past: pastOf(tagAt(999, 2), tagAt(1, 0), impl.Tag{}, tagAt(999, 0)), Wait: tagAt(999, at), Key: i}
	}
	// Records may be of clients that the world has not, and need not fit.
	w.Hist = append(readsOfNothing(3, 78), sure(3, 3, tagAt(999, 2)), wrote(0, 0, tagAt(1, 0)))
	mustBeValidWorld(t, w)
	w.Sess = nil
	mustBeValidWorld(t, w)
	w.Sess = make([]impl.Sess, 5)
	for i := range w.Sess {
		w.Sess[i].Past = impl.PastNone()
	}
	if impl.WorldOk(w) {
		t.Error("five clients")
	}
}

func TestP26ANewWorldIsConsistent(t *testing.T) {
	for _, nodes := range extremes() {
		for _, sess := range extremes() {
			w := impl.WorldNew(nodes, sess)
			if nodes < 1 || nodes > 4 || sess < 0 || sess > 4 {
				mustBeZeroWorld(t, "WorldNew", w, false)
				continue
			}
			if !impl.WorldOk(w) || !impl.WorldSafe(w) || !impl.WorldSame(w) {
				t.Errorf("WorldNew(%d, %d) is %v", nodes, sess, w)
			}
			if !sameWorld(w, newWorldModel(nodes, sess)) {
				t.Errorf("WorldNew(%d, %d) is not empty: %v", nodes, sess, w)
			}
		}
	}
}

// mustDo performs an event and holds the result against the document.
func mustDo(t *testing.T, w impl.World, e impl.Event) (impl.World, bool) {
	t.Helper()
	x, ok := impl.WorldDo(w, e)
	want, wantOk := doModel(w, e)
	if ok != wantOk || !sameWorld(x, want) {
		t.Fatalf("WorldDo(%v, %v) is %v, %v instead of %v, %v", w, e, x, ok, want, wantOk)
	}
	if !ok && !sameWorld(x, w) {
		t.Fatalf("WorldDo(%v, %v) fails, and is %v", w, e, x)
	}
	mustBeValidWorld(t, x)
	if len(x.Hist) < len(w.Hist) || !slices.Equal(x.Hist[:len(w.Hist)], w.Hist) {
		t.Errorf("WorldDo(%v, %v) changes the history to %v", w, e, x.Hist)
	}
	return x, ok
}

func TestP27ImpossibleEventsChangeNothing(t *testing.T) {
	possible := map[int]int{}
	refused := map[int]int{}
	for _, w := range worldList() {
		for _, e := range eventsFor(w) {
			if _, ok := mustDo(t, w, e); ok {
				possible[e.Kind]++
			} else {
				refused[e.Kind]++
			}
		}
	}
	for kind := 1; kind <= 13; kind++ {
		if possible[kind] == 0 || refused[kind] == 0 {
			t.Errorf("kind %d: %d possible, %d not", kind, possible[kind], refused[kind])
		}
	}
}

func TestP27NumbersThatNothingHas(t *testing.T) {
	w := storyWorld()
	for kind := 0; kind <= 14; kind++ {
		for _, n := range extremes() {
			mustDo(t, w, impl.Event{Kind: kind, At: n, Num: 1})
			mustDo(t, w, impl.Event{Kind: kind, At: 3, Num: n})
			mustDo(t, w, impl.Event{Kind: kind, At: 0, Num: 1, Key: n})
		}
	}
}

func TestP27InvalidWorlds(t *testing.T) {
	for name, w := range badWorlds() {
		for kind := 0; kind <= 14; kind++ {
			x, ok := impl.WorldDo(w, impl.Event{Kind: kind})
			mustBeZeroWorld(t, name, x, ok)
		}
	}
}

// possibleEvents performs events each of which must be possible.
func possibleEvents(t *testing.T, w impl.World, list ...impl.Event) impl.World {
	t.Helper()
	for _, e := range list {
		x, ok := mustDo(t, w, e)
		if !ok {
			t.Fatalf("%v is not possible in %v", e, w)
		}
		w = x
	}
	return w
}

func impossibleEvents(t *testing.T, w impl.World, list ...impl.Event) {
	t.Helper()
	for _, e := range list {
		if x, ok := mustDo(t, w, e); ok {
			t.Errorf("%v is possible in %v: %v", e, w, x)
		}
	}
}

func TestP27AClientThatWaitsOnlyAsks(t *testing.T) {
	w := possibleEvents(t, impl.WorldNew(2, 1), impl.Event{Kind: impl.EventWrite, Text: "a"})
	if w.Sess[0].Wait != tagAt(1, 0) || w.Sess[0].Key != 0 || !slices.Equal(w.Hist, []impl.Done{wrote(0, 0, tagAt(1, 0))}) {
		t.Fatal(w)
	}
	others := []impl.Event{{Kind: impl.EventWrite, Key: 1, Text: "b"}, {Kind: impl.EventRead, Key: 1}, {Kind: impl.EventAll}, {Kind: impl.EventMove, Num: 1}, {Kind: impl.EventMove}}
	impossibleEvents(t, w, others...)
	// It is not shown yet, and not lost.
	impossibleEvents(t, w, impl.Event{Kind: impl.EventAsk})
	w = possibleEvents(t, w, impl.Event{Kind: impl.EventPass})
	impossibleEvents(t, w, others...)
	w = possibleEvents(t, w, impl.Event{Kind: impl.EventAsk})
	if w.Sess[0].Wait != (impl.Tag{}) || w.Sess[0].Past.Tags[0] != tagAt(1, 0) || !slices.Equal(w.Hist[1:], []impl.Done{sure(0, 0, tagAt(1, 0))}) {
		t.Error(w)
	}
	impossibleEvents(t, w, impl.Event{Kind: impl.EventAsk})
	for _, e := range others {
		possibleEvents(t, w, e)
	}
}

func TestP27AWriteThatWasLostWithTheHead(t *testing.T) {
	w := possibleEvents(t, impl.WorldNew(3, 4), impl.Event{Kind: impl.EventWrite, Key: 2, Text: "a"}, impl.Event{Kind: impl.EventFall}, impl.Event{Kind: impl.EventAsk})
	s := w.Sess[0]
	if s.Wait != (impl.Tag{}) || s.Key != 0 || !samePast(s.Past, impl.PastNone()) || len(w.Hist) != 1 || !impl.WorldSafe(w) {
		t.Fatal(w)
	}
	w = possibleEvents(t, w, impl.Event{Kind: impl.EventRead, Key: 2}, impl.Event{Kind: impl.EventWrite, Key: 2, Gone: true})
	if w.Hist[1] != hasRead(0, 2, impl.Tag{}) || w.Hist[2] != wrote(0, 2, tagAt(2, 0)) || !impl.WorldSafe(w) {
		t.Error(w.Hist)
	}
}

func TestP27ALostWriteIsAskedForWithoutRoom(t *testing.T) {
	w := possibleEvents(t, impl.WorldNew(3, 4), impl.Event{Kind: impl.EventWrite, Key: 2, Text: "a"})
	w.Hist = append(w.Hist, readsOfNothing(1, 79)...)
	lost := possibleEvents(t, w, impl.Event{Kind: impl.EventFall}, impl.Event{Kind: impl.EventAsk})
	if len(lost.Hist) != 80 || lost.Sess[0].Wait != (impl.Tag{}) {
		t.Error(lost)
	}
	shown := possibleEvents(t, w, impl.Event{Kind: impl.EventPass})
	impossibleEvents(t, shown, impl.Event{Kind: impl.EventAsk})
	shown.Hist = shown.Hist[:79]
	possibleEvents(t, shown, impl.Event{Kind: impl.EventAsk})
}

func TestP27ALostWriteThatWasReplacedIsSure(t *testing.T) {
	w := possibleEvents(t, impl.WorldNew(3, 4), impl.Event{Kind: impl.EventWrite, Key: 2, Text: "a"}, impl.Event{Kind: impl.EventFall},
		impl.Event{Kind: impl.EventWrite, At: 3, Key: 2, Text: "b"})
	// The head has the other client's write now, which nobody is shown yet.
	impossibleEvents(t, w, impl.Event{Kind: impl.EventAsk})
	w = possibleEvents(t, w, impl.Event{Kind: impl.EventPass}, impl.Event{Kind: impl.EventAsk})
	if w.Sess[0].Past.Tags[2] != tagAt(1, 0) || w.Hist[2] != sure(0, 2, tagAt(1, 0)) || !impl.WorldSafe(w) {
		t.Error(w)
	}
}

func TestP27AskingDoesNotForgetALaterVersion(t *testing.T) {
	w := storyWorld()
	w.Sess[1].Past.Tags[3] = tagAt(9, 0)
	x := possibleEvents(t, w, impl.Event{Kind: impl.EventAsk, At: 1})
	if x.Sess[1].Past.Tags[3] != tagAt(9, 0) || x.Hist[len(x.Hist)-1] != sure(1, 3, tagAt(2, 1)) {
		t.Error(x)
	}
}

func TestP27AClientThatMovesWaitsForWhatItHasSeen(t *testing.T) {
	w := storyWorld()
	for to := 1; to <= 2; to++ {
		x := possibleEvents(t, w, impl.Event{Kind: impl.EventMove, At: 3, Num: to})
		if x.Sess[3].Place != to || len(x.Hist) != len(w.Hist) {
			t.Fatal(x)
		}
		for node := 0; node < 3; node++ {
			impossibleEvents(t, x, impl.Event{Kind: impl.EventRead, At: 3, Num: node, Key: 2})
			possibleEvents(t, x, impl.Event{Kind: impl.EventRead, At: 3, Num: node, Key: 0})
		}
		// Data centre 1 has key 1 at its first nodes, data centre 2 nowhere.
		_, ok := mustDo(t, x, impl.Event{Kind: impl.EventRead, At: 3, Num: 1, Key: 1})
		if ok != (to == 1) {
			t.Errorf("reading key 1 at %d: %v", to, ok)
		}
		impossibleEvents(t, x, impl.Event{Kind: impl.EventRead, At: 3, Num: 2, Key: 1}, impl.Event{Kind: impl.EventAll, At: 3}, impl.Event{Kind: impl.EventWrite, At: 3, Text: "x"})
		back := possibleEvents(t, x, impl.Event{Kind: impl.EventMove, At: 3}, impl.Event{Kind: impl.EventAll, At: 3})
		if back.Sess[3].Place != 0 {
			t.Error(back)
		}
		calm := impl.WorldCalm(x, 9)
		possibleEvents(t, calm, impl.Event{Kind: impl.EventRead, At: 3, Key: 1}, impl.Event{Kind: impl.EventAll, At: 3}, impl.Event{Kind: impl.EventWrite, At: 3, Text: "x"})
	}
}

func TestP27ReadingAcquiresDependencies(t *testing.T) {
	w := possibleEvents(t, impl.WorldNew(1, 2), impl.Event{Kind: impl.EventWrite, Key: 1, Text: "a"}, impl.Event{Kind: impl.EventAsk}, impl.Event{Kind: impl.EventWrite, Key: 2, Gone: true}, impl.Event{Kind: impl.EventAsk},
		impl.Event{Kind: impl.EventMove, At: 1}, impl.Event{Kind: impl.EventRead, At: 1, Key: 2})
	if !samePast(w.Sess[1].Past, pastOf(impl.Tag{}, tagAt(1, 0), tagAt(2, 0), impl.Tag{})) || w.Hist[4] != hasRead(1, 2, tagAt(2, 0)) {
		t.Error(w)
	}
	// Nothing was written of key 3, and a client that has seen nothing of it may read that.
	x := possibleEvents(t, w, impl.Event{Kind: impl.EventRead, At: 1, Key: 3})
	if !samePast(x.Sess[1].Past, w.Sess[1].Past) || x.Hist[5] != hasRead(1, 3, impl.Tag{}) {
		t.Error(x)
	}
	w.Sess[1].Past.Tags[3] = tagAt(1, 0)
	impossibleEvents(t, w, impl.Event{Kind: impl.EventRead, At: 1, Key: 3})
}

func TestP27RecordsNeedRoom(t *testing.T) {
	w := possibleEvents(t, impl.WorldNew(1, 4), impl.Event{Kind: impl.EventWrite, Text: "a"})
	for _, n := range []int{75, 76, 77, 78, 79, 80} {
		w.Hist = append(w.Hist[:1], readsOfNothing(2, n-1)...)
		for kind, need := range map[int]int{impl.EventWrite: 1, impl.EventRead: 1, impl.EventAll: 4} {
			x, ok := mustDo(t, w, impl.Event{Kind: kind, At: 1})
			if ok != (n+need <= 80) || ok && len(x.Hist) != n+need {
				t.Errorf("kind %d with %d records: %v", kind, n, ok)
			}
		}
		if _, ok := mustDo(t, w, impl.Event{Kind: impl.EventAsk}); ok != (n < 80) {
			t.Errorf("asking with %d records: %v", n, ok)
		}
		possibleEvents(t, w, impl.Event{Kind: impl.EventMove, At: 1, Num: 2}, impl.Event{Kind: impl.EventJoin}, impl.Event{Kind: impl.EventSend, Num: 1}, impl.Event{Kind: impl.EventHear})
	}
}

func TestP27FramesThatComeTwiceOrNever(t *testing.T) {
	w := possibleEvents(t, impl.WorldNew(1, 1), impl.Event{Kind: impl.EventWrite, Text: "a"}, impl.Event{Kind: impl.EventAsk}, impl.Event{Kind: impl.EventWrite, Key: 1, Gone: true})
	impossibleEvents(t, w, impl.Event{Kind: impl.EventSend}, impl.Event{Kind: impl.EventSend, At: 1, Num: 0}, impl.Event{Kind: impl.EventSend, Num: 1, Key: 2}, impl.Event{Kind: impl.EventSend, Num: 1, Key: -1})
	w = possibleEvents(t, w, impl.Event{Kind: impl.EventSend, Num: 1}, impl.Event{Kind: impl.EventSend, Num: 1, Key: 1}, impl.Event{Kind: impl.EventSend, Num: 1})
	early := possibleEvents(t, w, impl.Event{Kind: impl.EventHear, At: 1})
	if len(early.Places[1].Got[0]) != 0 || len(early.Net) != 2 || early.Net[1].At != 0 {
		t.Error("the second one came first", early)
	}
	w = possibleEvents(t, w, impl.Event{Kind: impl.EventKeep})
	if len(w.Places[1].Got[0]) != 1 || len(w.Net) != 3 {
		t.Fatal(w)
	}
	w = possibleEvents(t, w, impl.Event{Kind: impl.EventKeep}, impl.Event{Kind: impl.EventHear}, impl.Event{Kind: impl.EventHear, At: 1})
	if len(w.Places[1].Got[0]) != 1 || len(w.Net) != 1 || w.Net[0].At != 1 {
		t.Fatal(w)
	}
	lost := possibleEvents(t, w, impl.Event{Kind: impl.EventLose})
	if len(lost.Places[1].Got[0]) != 1 || len(lost.Net) != 0 {
		t.Error(lost)
	}
	impossibleEvents(t, lost, impl.Event{Kind: impl.EventHear}, impl.Event{Kind: impl.EventLose}, impl.Event{Kind: impl.EventKeep})
	heard := possibleEvents(t, w, impl.Event{Kind: impl.EventHear}, impl.Event{Kind: impl.EventTake, At: 1}, impl.Event{Kind: impl.EventTake, At: 1})
	if v := headOf(heard.Places[1]).Store.Vers[1]; v.Tag != tagAt(2, 0) || !v.Gone {
		t.Error(heard)
	}
}

func TestP27AtMostNetMaxFrames(t *testing.T) {
	w := possibleEvents(t, impl.WorldNew(1, 1), impl.Event{Kind: impl.EventWrite, Text: "a"})
	for i := 0; i < 12; i++ {
		w = possibleEvents(t, w, impl.Event{Kind: impl.EventSend, Num: 1 + i%2})
	}
	impossibleEvents(t, w, impl.Event{Kind: impl.EventSend, Num: 1})
	w = possibleEvents(t, w, impl.Event{Kind: impl.EventLose, At: 11}, impl.Event{Kind: impl.EventSend, Num: 1})
	if len(w.Net) != 12 || w.Net[11].To != 1 {
		t.Error(w.Net)
	}
}

func TestP28WorldPlayIsASequenceOfEvents(t *testing.T) {
	r := rand.New(rand.NewSource(28))
	for i, n := range []int{0, 1, 30, 59, 60, 61, 62, 100, 60, 61, 40, 300} {
		nodes, sess := 1+i%4, []int{4, 3, 0, 2, 1}[i%5]
		list := someEvents(r, nodes, sess, n)
		got := impl.WorldPlay(nodes, sess, list)
		w := impl.WorldNew(nodes, sess)
		for j := 0; j < len(list) && j < 60; j++ {
			w, _ = impl.WorldDo(w, list[j])
		}
		if !sameWorld(got, w) || !sameWorld(got, playModel(nodes, sess, list)) {
			t.Errorf("WorldPlay(%d, %d, %v) is %v instead of %v", nodes, sess, list, got, w)
		}
	}
}

func TestP28AtMostPlayMaxEvents(t *testing.T) {
	for n, want := range map[int]int{59: 59, 60: 60, 61: 60, 200: 60} {
		var list []impl.Event
		for i := 0; i < n; i++ {
			list = append(list, impl.Event{Kind: impl.EventRead})
		}
		if w := impl.WorldPlay(1, 1, list); len(w.Hist) != want {
			t.Errorf("%d events: %d records", n, len(w.Hist))
		}
	}
	// Events that are not possible are among the first PlayMax ones.
	list := slices.Repeat([]impl.Event{{Kind: impl.EventAsk}}, 60)
	if w := impl.WorldPlay(1, 1, append(list, impl.Event{Kind: impl.EventRead})); len(w.Hist) != 0 {
		t.Error(w.Hist)
	}
	if w := impl.WorldPlay(1, 1, append(list[:59], impl.Event{Kind: impl.EventRead})); len(w.Hist) != 1 {
		t.Error(w.Hist)
	}
}

func TestP28InvalidArguments(t *testing.T) {
	list := []impl.Event{{Kind: impl.EventWrite, Text: "a"}, {Kind: impl.EventJoin}}
	for _, nodes := range extremes() {
		for _, sess := range extremes() {
			w := impl.WorldPlay(nodes, sess, list)
			if nodes < 1 || nodes > 4 || sess < 0 || sess > 4 {
				mustBeZeroWorld(t, "WorldPlay", w, false)
			} else if len(w.Places) != 3 || len(w.Sess) != sess {
				t.Errorf("WorldPlay(%d, %d) is %v", nodes, sess, w)
			}
		}
	}
}

// played is worlds behind WorldPlay.
func played(seed int64, count int) []impl.World {
	r := rand.New(rand.NewSource(seed))
	var list []impl.World
	for i := 0; i < count; i++ {
		nodes, sess := 1+i%4, 1+r.Intn(4)
		list = append(list, impl.WorldPlay(nodes, sess, someEvents(r, nodes, sess, 60)))
	}
	return list
}

func TestP29CausalConsistency(t *testing.T) {
	for i, w := range played(29, 400) {
		if !impl.WorldOk(w) || !impl.WorldSafe(w) || !impl.HistOk(w.Hist) {
			t.Errorf("world %d: %v", i, w)
		}
		m, far := accountModel(w.Hist)
		if far != len(w.Hist) {
			t.Errorf("world %d: only %d records fit of %v", i, far, w.Hist)
		}
		for sess, s := range w.Sess {
			if !samePast(s.Past, m.view(sess)) {
				t.Errorf("world %d: client %d has %v, and has seen %v", i, sess, s.Past, m.view(sess))
			}
		}
	}
}

func TestWorldSafe(t *testing.T) {
	for _, w := range worldList() {
		_, far := accountModel(w.Hist)
		want := far == len(w.Hist)
		for _, s := range w.Sess {
			want = want && within(s.Past, latestOf(w))
		}
		if got := impl.WorldSafe(w); got != want {
			t.Errorf("WorldSafe(%v) is %v", w, got)
		}
	}
	for name, w := range badWorlds() {
		if impl.WorldSafe(w) {
			t.Errorf("%s: WorldSafe(%v) is true", name, w)
		}
	}
}

// latestOf is the latest tags of all nodes, made without the program.
func latestOf(w impl.World) impl.Past {
	latest := pastOf(make([]impl.Tag, 4)...)
	for _, p := range w.Places {
		for _, n := range p.Chain.Nodes {
			for key, v := range n.Store.Vers {
				if impl.TagLess(latest.Tags[key], v.Tag) {
					latest.Tags[key] = v.Tag
				}
			}
		}
	}
	return latest
}

func TestWorldSafeLooksAtEachClientAndEachRecord(t *testing.T) {
	if !impl.WorldSafe(storyWorld()) {
		t.Fatal("the story is safe")
	}
	for sess := 0; sess < 4; sess++ {
		for key := 0; key < 4; key++ {
			w := storyWorld()
			latest := latestOf(w)
			w.Sess[sess].Past = latest
			if !impl.WorldSafe(w) {
				t.Errorf("client %d has seen what is there", sess)
			}
			w.Sess[sess].Past.Tags[key] = tagAt(latest.Tags[key].Time+1, 0)
			if impl.WorldSafe(w) {
				t.Errorf("client %d has seen a version of %d that is nowhere", sess, key)
			}
		}
	}
	for name, list := range inconsistentList() {
		w := storyWorld()
		w.Hist = list
		if impl.WorldSafe(w) {
			t.Errorf("%s: safe", name)
		}
	}
}

func mustDependOnStable(t *testing.T, w impl.World) {
	t.Helper()
	for i, p := range w.Places {
		if !impl.StoreClosed(tailOf(p).Store) {
			t.Errorf("the tail of %d is not closed: %v", i, p)
		}
		for _, n := range p.Chain.Nodes {
			for _, v := range append(copyOfVers(n.Store.Vers), n.Wait...) {
				if !isNone(v) && !impl.PastWithin(v.Past, impl.ChainStable(p.Chain)) {
					t.Errorf("%v at %d depends on more than is stable: %v", v, i, p)
				}
			}
		}
	}
}

func TestP30EveryNodeDependsOnStableVersionsOnly(t *testing.T) {
	for _, w := range played(30, 300) {
		mustDependOnStable(t, w)
	}
}

func TestP32RoundsCompose(t *testing.T) {
	for _, w := range worldList() {
		before, model := copyOfWorld(w), copyOfWorld(w)
		for n := 0; n <= 6; n++ {
			got := impl.WorldCalm(w, n)
			if n > 0 {
				before, model = impl.WorldCalm(before, 1), roundModel(model)
			}
			if !sameWorld(got, before) || !sameWorld(got, model) {
				t.Fatalf("%d rounds of %v give %v instead of %v", n, w, got, model)
			}
			mustBeValidWorld(t, got)
			mustLeaveClients(t, w, got)
		}
	}
}

func mustLeaveClients(t *testing.T, w impl.World, calm impl.World) {
	t.Helper()
	if !sameWorld(impl.World{Sess: w.Sess, Hist: w.Hist}, impl.World{Sess: calm.Sess, Hist: calm.Hist}) {
		t.Errorf("the clients of %v become %v, and the history %v", w, calm.Sess, calm.Hist)
	}
}

func TestP32NoRoundAndCalmMaxRounds(t *testing.T) {
	w := storyWorld()
	if got := impl.WorldCalm(w, 0); !sameWorld(got, w) {
		t.Error(got)
	}
	calm := impl.WorldCalm(w, 80)
	if !sameWorld(calm, impl.WorldCalm(impl.WorldCalm(w, 79), 1)) || !impl.WorldSame(calm) || !impl.WorldSafe(calm) {
		t.Error(calm)
	}
	for _, rounds := range []int{-1, 81, 82, -1 << 63, 1<<63 - 1} {
		mustBeZeroWorld(t, "WorldCalm", impl.WorldCalm(w, rounds), false)
	}
	for name, bad := range badWorlds() {
		for _, rounds := range []int{-1, 0, 1} {
			mustBeZeroWorld(t, name, impl.WorldCalm(bad, rounds), false)
		}
	}
}

func TestP32FramesOfARoundAreHeardInTheNextOne(t *testing.T) {
	w := possibleEvents(t, impl.WorldNew(2, 1), impl.Event{Kind: impl.EventWrite, Key: 3, Gone: true})
	one := impl.WorldCalm(w, 1)
	if len(one.Places[0].Log) != 1 || len(one.Net) != 2 || len(one.Places[1].Got[0]) != 0 {
		t.Fatal(one)
	}
	two := impl.WorldCalm(w, 2)
	if len(two.Net) != 0 || len(two.Places[1].Got[0]) != 1 || !headOf(two.Places[2]).Store.Vers[3].Gone || !isNone(tailOf(two.Places[2]).Store.Vers[3]) {
		t.Fatal(two)
	}
	if impl.WorldSame(two) || !impl.WorldSame(impl.WorldCalm(w, 3)) {
		t.Error("it becomes the same in the third round")
	}
}

func TestWorldSame(t *testing.T) {
	for _, w := range worldList() {
		want := true
		for _, p := range w.Places {
			for _, n := range p.Chain.Nodes {
				want = want && sameStore(n.Store, headOf(w.Places[0]).Store)
			}
		}
		if got := impl.WorldSame(w); got != want {
			t.Errorf("WorldSame(%v) is %v", w, got)
		}
	}
	for name, w := range badWorlds() {
		if impl.WorldSame(w) {
			t.Errorf("%s: WorldSame(%v) is true", name, w)
		}
	}
}

func TestWorldSameLooksAtEachNodeAndField(t *testing.T) {
	full := func() impl.World {
		w := newWorldModel(1, 1)
		for me := range w.Places {
			w.Places[me].Chain = chainFrom(sameTagTail(), nil, nil)
			w.Places[me].Clock = 9
		}
		return w
	}
	if !impl.WorldSame(full()) {
		t.Fatal("they are the same")
	}
	for me := 0; me < 3; me++ {
		for name, f := range map[string]func(v *impl.Ver){
			"tag":  func(v *impl.Ver) { v.Tag.Time++ },
			"past": func(v *impl.Ver) { v.Past.Tags[3] = tagAt(1, 0) },
			"text": func(v *impl.Ver) { v.Text = "x" },
			"gone": func(v *impl.Ver) { v.Gone, v.Text = true, "" },
			"none": func(v *impl.Ver) { *v = impl.Ver{} },
		} {
			w := full()
			for k := range w.Places[me].Chain.Nodes {
				f(&w.Places[me].Chain.Nodes[k].Store.Vers[1])
			}
			mustBeValidWorld(t, w)
			if impl.WorldSame(w) {
				t.Errorf("another %s at %d", name, me)
			}
		}
		w := full()
		w.Places[me].Chain = chainFrom(sameTagTail(), nil, []impl.Ver{value(0, tagAt(9, 0), "x")})
		if impl.WorldSame(w) {
			t.Errorf("another version at the head of %d", me)
		}
	}
}

func TestP33ReadingAllKeysGivesAClosedSnapshot(t *testing.T) {
	seen := 0
	for _, w := range append(worldList(), played(33, 200)...) {
		for at, s := range w.Sess {
			x, ok := mustDo(t, w, impl.Event{Kind: impl.EventAll, At: at})
			if !ok {
				continue
			}
			seen++
			tail := tailOf(w.Places[s.Place]).Store
			if !samePast(x.Sess[at].Past, impl.StoreTags(tail)) || !impl.StoreClosed(tail) || !impl.PastWithin(s.Past, x.Sess[at].Past) {
				t.Errorf("client %d of %v reads all: %v", at, w, x)
			}
			if len(x.Hist) != len(w.Hist)+4 {
				t.Fatalf("client %d of %v reads all: %v", at, w, x.Hist)
			}
			for key, d := range x.Hist[len(w.Hist):] {
				if d != hasRead(at, key, tail.Vers[key].Tag) {
					t.Errorf("client %d of %v reads %v", at, w, d)
				}
			}
		}
	}
	if seen < 50 {
		t.Error("too few reads of all keys:", seen)
	}
}

// walk performs events from a new world on, and calls look with the world before and
// behind each of them.
func walk(t *testing.T, seed int64, look func(before impl.World, after impl.World)) {
	t.Helper()
	r := rand.New(rand.NewSource(seed))
	w := impl.WorldNew(1+int(seed%4), 4)
	for step := 0; step < 220; step++ {
		x, _ := impl.WorldDo(w, someEvent(r, w))
		mustBeValidWorld(t, x)
		look(w, x)
		w = x
	}
}

func TestP34StableWritesAreDurable(t *testing.T) {
	found := 0
	for seed := int64(0); seed < 60; seed++ {
		walk(t, seed, func(before impl.World, after impl.World) {
			for _, d := range after.Hist {
				if d.Kind != impl.DoneSure {
					continue
				}
				found++
				if impl.TagLess(headOf(after.Places[d.Tag.Place]).Store.Vers[d.Key].Tag, d.Tag) {
					t.Errorf("%v is lost in %v", d, after)
				}
			}
			if !impl.WorldSafe(after) {
				t.Errorf("not safe: %v", after)
			}
		})
	}
	if found < 1000 {
		t.Error("too few writes that are sure:", found)
	}
}

func TestP34ASureWriteOutlivesEachNode(t *testing.T) {
	for nodes := 2; nodes <= 4; nodes++ {
		for node := 0; node < nodes; node++ {
			w := possibleEvents(t, impl.WorldNew(nodes, 1), impl.Event{Kind: impl.EventWrite, Text: "a"}, impl.Event{Kind: impl.EventPass}, impl.Event{Kind: impl.EventAsk}, impl.Event{Kind: impl.EventFall, Num: node})
			if headOf(w.Places[0]).Store.Vers[0].Text != "a" {
				t.Errorf("node %d of %d falls, and the write is lost", node, nodes)
			}
			// It is at one node only, so no other one may fall before it is passed on.
			if waitingAt(w.Places[0]) > 0 {
				impossibleEvents(t, w, impl.Event{Kind: impl.EventFall}, impl.Event{Kind: impl.EventFall, Num: 1})
			}
			if !impl.WorldSafe(w) {
				t.Error(w)
			}
		}
	}
}

func TestP69AClientNeverForgets(t *testing.T) {
	for seed := int64(100); seed < 130; seed++ {
		walk(t, seed, func(before impl.World, after impl.World) {
			for i, s := range before.Sess {
				if !impl.PastWithin(s.Past, after.Sess[i].Past) {
					t.Errorf("client %d of %v becomes %v", i, before, after.Sess[i])
				}
			}
			if len(after.Hist) < len(before.Hist) || !slices.Equal(before.Hist, after.Hist[:len(before.Hist)]) {
				t.Errorf("the history %v becomes %v", before.Hist, after.Hist)
			}
		})
	}
}

func TestP70StableVersionsAreNotLost(t *testing.T) {
	for seed := int64(200); seed < 230; seed++ {
		walk(t, seed, func(before impl.World, after impl.World) {
			for i, p := range before.Places {
				x := after.Places[i]
				if !impl.PastWithin(impl.ChainStable(p.Chain), impl.ChainStable(x.Chain)) || x.Clock < p.Clock {
					t.Errorf("data centre %v becomes %v", p, x)
				}
			}
		})
	}
}

func TestP71LogsOnlyGrow(t *testing.T) {
	for seed := int64(300); seed < 330; seed++ {
		walk(t, seed, func(before impl.World, after impl.World) {
			for i, p := range before.Places {
				log := after.Places[i].Log
				if len(log) < len(p.Log) || !sameVers(p.Log, log[:len(p.Log)]) {
					t.Errorf("the log %v becomes %v", p.Log, log)
				}
				for other := range before.Places {
					old, got := before.Places[other].Got[i], after.Places[other].Got[i]
					if len(got) < len(old) || len(got) > len(log) || !sameVers(got, log[:len(got)]) {
						t.Errorf("what %d got of %d is %v, then %v; the log is %v", other, i, old, got, log)
					}
				}
			}
		})
	}
}
