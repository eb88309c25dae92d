package tests

import (
	"math"
	"math/rand"
	"testing"

	"loop.example/confluence/impl"
)

func TestLimitOfLogs(t *testing.T) {
	if impl.LogMax != 60 {
		t.Error(impl.LogMax)
	}
}

func TestPlaceOk(t *testing.T) {
	for _, p := range append(placeList(), goodPlace(), sharedPlace()) {
		mustBeValidPlace(t, p)
		p.Fell = !p.Fell
		mustBeValidPlace(t, p)
	}
	for name, p := range badPlaces() {
		if impl.PlaceOk(p) {
			t.Errorf("%s: PlaceOk(%v) is true", name, p)
		}
	}
}

func TestPlaceOkAtTheLimits(t *testing.T) {
	p := placeOf(2, chainFrom(impl.StoreNew(), []impl.Ver{value(1, tagAt(999, 0), "late")}))
	p.Log = logOfLength(2, 60, 940)
	p.Got = [][]impl.Ver{logOfLength(0, 60, 1), logOfLength(1, 60, 1), {}}
	mustBeValidPlace(t, p)
	p.Clock = 998
	if impl.PlaceOk(p) {
		t.Error("the clock is before the head")
	}
	// The logs may have later times than the clock, and the same tags as the chain.
	p = placeOf(0, chainFrom(sameTagTail()))
	p.Log = []impl.Ver{value(1, tagAt(999, 0), "x"), value(0, tagAt(3, 0), "a")}
	p.Got[1] = []impl.Ver{value(1, tagAt(999, 1), "x"), value(1, tagAt(2, 1), "b")}
	mustBeValidPlace(t, p)
}

func TestP19ANewDataCentreIsEmpty(t *testing.T) {
	for _, me := range places() {
		for _, n := range places() {
			p := impl.PlaceNew(me, n)
			if me < 0 || me > 2 || n < 1 || n > 4 {
				mustBeZeroPlace(t, "PlaceNew", p, false)
				continue
			}
			mustBeValidPlace(t, p)
			if p.Me != me || len(p.Chain.Nodes) != n || len(p.Log) != 0 {
				t.Errorf("PlaceNew(%d, %d) is %v", me, n, p)
			}
			if !samePlace(p, placeOf(me, impl.ChainNew(n))) {
				t.Errorf("PlaceNew(%d, %d) is not empty: %v", me, n, p)
			}
		}
	}
}

// pastsFor is vectors that are within the stable tags and vectors that are not.
func pastsFor(p impl.Place) []impl.Past {
	list := append(badPasts(), impl.PastNone(), stableOf(p), impl.StoreTags(headOf(p).Store))
	for k := 0; k < 4; k++ {
		for _, t := range []impl.Tag{{}, tagAt(1, 0), tagAt(7, 1), tagAt(999, 2), tagAt(math.MaxInt, 0)} {
			past := stableOf(p)
			past.Tags[k] = t
			list = append(list, past)
		}
		past := stableOf(p)
		past.Tags[k].Place++
		list = append(list, past)
	}
	return list
}

func mustWrite(t *testing.T, p impl.Place, key int, text string, gone bool, past impl.Past) {
	t.Helper()
	x, tag := impl.PlaceWrite(p, key, text, gone, past)
	want, wantTag := writeModel(p, key, text, gone, past)
	if tag != wantTag || !samePlace(x, want) {
		t.Fatalf("PlaceWrite(%v, %d, %q, %v, %v) is %v, %v", p, key, text, gone, past, x, tag)
	}
	mustBeValidPlace(t, x)
	if tag == (impl.Tag{}) {
		return
	}
	for k, v := range headOf(p).Store.Vers {
		if !impl.TagLess(v.Tag, tag) || !impl.TagLess(past.Tags[k], tag) {
			t.Errorf("PlaceWrite(%v, %d, %q, %v, %v) has an early tag: %v", p, key, text, gone, past, tag)
		}
	}
	if !sameVer(headOf(x).Store.Vers[key], impl.Ver{Key: key, Tag: tag, Past: past, Text: text, Gone: gone}) {
		t.Errorf("the head of PlaceWrite(%v, %d, %q, %v, %v) is %v", p, key, text, gone, past, headOf(x))
	}
}

func TestP20AWriteIsLaterThanItsDependencies(t *testing.T) {
	for _, p := range append(placeList(), goodPlace()) {
		for _, past := range pastsFor(p) {
			mustWrite(t, p, 1, "a", false, past)
			mustWrite(t, p, 2, "", true, past)
		}
		for _, key := range places() {
			mustWrite(t, p, key, "a", false, stableOf(p))
			mustWrite(t, p, key, "", true, impl.PastNone())
		}
		for _, text := range []string{"", "a", "!~", "12345678", "123456789", " ", "a\x7f", "\x00", "\xff", "é"} {
			mustWrite(t, p, 3, text, false, stableOf(p))
			mustWrite(t, p, 0, text, true, stableOf(p))
		}
	}
}

func TestP20TheTimeIsAtMostTimeMax(t *testing.T) {
	p := impl.PlaceNew(2, 2)
	p.Clock = 998
	p, tag := impl.PlaceWrite(p, 0, "a", false, impl.PastNone())
	if tag != tagAt(999, 2) || p.Clock != 999 {
		t.Fatal(tag, p)
	}
	if x, tag := impl.PlaceWrite(p, 0, "a", false, impl.PastNone()); tag != (impl.Tag{}) || !samePlace(x, p) {
		t.Error(tag, x)
	}
}

func TestP20TheLogKeepsRoomForWhatWaits(t *testing.T) {
	for length, want := range map[int]impl.Tag{34: tagAt(1, 1), 35: tagAt(1, 1), 36: {}, 37: {}, 60: {}} {
		for nodes := 1; nodes <= 4; nodes++ {
			p := impl.PlaceNew(1, nodes)
			p.Log = logOfLength(1, length, 100)
			x, tag := impl.PlaceWrite(p, 0, "a", false, impl.PastNone())
			if tag != want || tag == (impl.Tag{}) && !samePlace(x, p) {
				t.Errorf("with %d versions in the log: %v, %v", length, x, tag)
			}
		}
	}
}

func TestP20SixWaitAtTheHead(t *testing.T) {
	p := impl.PlaceNew(0, 2)
	for i := 1; i <= 6; i++ {
		var tag impl.Tag
		p, tag = impl.PlaceWrite(p, i%4, "w", false, impl.PastNone())
		if tag != tagAt(i, 0) || len(headOf(p).Wait) != i || len(p.Log) != 0 {
			t.Fatal(i, tag, p)
		}
	}
	if x, tag := impl.PlaceWrite(p, 0, "w", false, impl.PastNone()); tag != (impl.Tag{}) || !samePlace(x, p) {
		t.Error(tag, x)
	}
}

func TestP20AWriteAtTheOnlyNodeIsRecorded(t *testing.T) {
	p := impl.PlaceNew(0, 1)
	p.Fell = true
	for i := 1; i <= 9; i++ {
		x, tag := impl.PlaceWrite(p, 1, "", true, stableOf(p))
		if tag != tagAt(i, 0) || len(x.Log) != i || !sameVer(x.Log[i-1], headOf(x).Store.Vers[1]) || x.Fell {
			t.Fatal(i, tag, x)
		}
		p = x
	}
}

func TestP20WhatTheHeadAloneHasIsNoDependency(t *testing.T) {
	p, a := impl.PlaceWrite(impl.PlaceNew(0, 3), 1, "a", false, impl.PastNone())
	need := pastOf(impl.Tag{}, a, impl.Tag{}, impl.Tag{})
	for i := 0; i < 2; i++ {
		if x, tag := impl.PlaceWrite(p, 2, "b", false, need); tag != (impl.Tag{}) || !samePlace(x, p) {
			t.Error(i, tag, x)
		}
		p, _ = impl.PlacePass(p, i)
	}
	if _, tag := impl.PlaceWrite(p, 2, "b", false, need); tag != tagAt(2, 0) {
		t.Error(tag)
	}
}

func TestP20InvalidDataCentres(t *testing.T) {
	for name, p := range badPlaces() {
		for _, past := range []impl.Past{impl.PastNone(), {}} {
			x, tag := impl.PlaceWrite(p, 0, "a", false, past)
			mustBeZeroPlace(t, name, x, tag != impl.Tag{})
		}
	}
}

func mustLogOwn(t *testing.T, before impl.Place, after impl.Place) {
	t.Helper()
	if len(after.Log) < len(before.Log) || !sameVers(before.Log, after.Log[:len(before.Log)]) {
		t.Errorf("the log %v becomes %v", before.Log, after.Log)
	}
	known := map[impl.Tag]bool{}
	for _, v := range after.Log {
		known[v.Tag] = true
	}
	for _, v := range tailOf(after).Store.Vers {
		if v.Tag.Time > 0 && v.Tag.Place == after.Me && !known[v.Tag] {
			t.Errorf("%v is at the tail, and not in the log %v", v, after.Log)
		}
	}
}

func TestP21OwnStableWritesAreLogged(t *testing.T) {
	for _, p := range append(placeList(), goodPlace()) {
		for _, node := range places() {
			x, ok := impl.PlacePass(p, node)
			want, wantOk := passModel(p, node)
			if ok != wantOk || !samePlace(x, want) {
				t.Fatalf("PlacePass(%v, %d) is %v, %v", p, node, x, ok)
			}
			mustBeValidPlace(t, x)
			if ok {
				mustLogOwn(t, p, x)
			}
		}
	}
}

func TestP21OnlyWhatIsNewIsLoggedInOrderOfKeys(t *testing.T) {
	tail := impl.Store{Vers: []impl.Ver{value(0, tagAt(5, 0), "a"), value(1, tagAt(4, 1), "b"), tombstone(2, tagAt(3, 0)), value(3, tagAt(2, 0), "d")}}
	p := placeOf(0, chainFrom(tail, []impl.Ver{value(1, tagAt(6, 2), "e")}))
	p.Log = []impl.Ver{value(0, tagAt(2, 0), "told")}
	x, ok := impl.PlacePass(p, 0)
	want := append(copyOfVers(p.Log), tail.Vers[0], tail.Vers[2])
	if !ok || !sameVers(x.Log, want) {
		t.Errorf("the log is %v", x.Log)
	}
}

func TestP21AnEqualTagIsLoggedOnce(t *testing.T) {
	p := placeOf(0, chainFrom(sameTagTail(), []impl.Ver{value(1, tagAt(9, 2), "x")}))
	x, ok := impl.PlacePass(p, 0)
	want := []impl.Ver{value(0, tagAt(3, 0), "a"), tombstone(3, tagAt(1, 0))}
	if !ok || !sameVers(x.Log, want) {
		t.Errorf("the log is %v", x.Log)
	}
}

func TestP21WhatIsAtTheNodeBetweenIsNotLogged(t *testing.T) {
	p, _ := impl.PlaceWrite(impl.PlaceNew(1, 3), 2, "a", false, impl.PastNone())
	p, ok := impl.PlacePass(p, 0)
	if !ok || len(p.Log) != 0 {
		t.Fatal(p, ok)
	}
	p, ok = impl.PlacePass(p, 1)
	if !ok || len(p.Log) != 1 || p.Log[0].Tag != tagAt(1, 1) {
		t.Error(p, ok)
	}
}

func TestP21FellIsClearedWithTheLastOneThatWaits(t *testing.T) {
	p := placeOf(0, chainFrom(impl.StoreNew(), []impl.Ver{value(0, tagAt(1, 2), "a")}, []impl.Ver{value(1, tagAt(2, 2), "b")}))
	p.Fell = true
	for i, node := range []int{0, 1, 1} {
		var ok bool
		p, ok = impl.PlacePass(p, node)
		if !ok || p.Fell != (i < 2) {
			t.Errorf("pass %d: %v, %v", i, p, ok)
		}
	}
}

func TestP21InvalidDataCentres(t *testing.T) {
	for name, p := range badPlaces() {
		for _, node := range []int{-1, 0, 1} {
			x, ok := impl.PlacePass(p, node)
			mustBeZeroPlace(t, name, x, ok)
		}
	}
}

func TestP22AFailureHidesNothingThatWasShown(t *testing.T) {
	for _, p := range append(placeList(), goodPlace()) {
		for _, node := range places() {
			x, ok := impl.PlaceFall(p, node)
			want, wantOk := fallModel(p, node)
			if ok != wantOk || !samePlace(x, want) {
				t.Fatalf("PlaceFall(%v, %d) is %v, %v", p, node, x, ok)
			}
			mustBeValidPlace(t, x)
			if !ok {
				continue
			}
			mustLogOwn(t, p, x)
			if x.Fell != (waitingAt(x) > 0) {
				t.Errorf("PlaceFall(%v, %d): Fell is %v", p, node, x.Fell)
			}
			mustHaveWhatWasShown(t, p, x)
		}
	}
}

func mustHaveWhatWasShown(t *testing.T, before impl.Place, after impl.Place) {
	t.Helper()
	for k := range before.Chain.Nodes {
		for key, v := range headOf(after).Store.Vers {
			if shown, _ := impl.ChainShows(before.Chain, k, key); impl.TagLess(v.Tag, shown.Tag) {
				t.Errorf("%v was shown by %v, and is not at the head of %v", shown, before, after)
			}
		}
	}
}

func TestP22OneFailureAtATime(t *testing.T) {
	p := placeOf(1, chainFrom(impl.StoreNew(), []impl.Ver{value(0, tagAt(1, 1), "a")}, nil, nil))
	p, ok := impl.PlaceFall(p, 0)
	if !ok || !p.Fell || len(p.Chain.Nodes) != 3 {
		t.Fatal(p, ok)
	}
	for _, node := range places() {
		if x, ok := impl.PlaceFall(p, node); ok || !samePlace(x, p) {
			t.Errorf("second failure of %d: %v, %v", node, x, ok)
		}
	}
	p, _ = impl.PlacePass(p, 1)
	if p.Fell || len(p.Log) != 1 {
		t.Fatal(p)
	}
	if x, ok := impl.PlaceFall(p, 1); !ok || x.Fell || len(x.Chain.Nodes) != 2 {
		t.Error(x, ok)
	}
}

func TestP22FellKeepsAFailureAwayWhenNothingWaits(t *testing.T) {
	p := impl.PlaceNew(0, 3)
	p.Fell = true
	if x, ok := impl.PlaceFall(p, 1); ok || !samePlace(x, p) {
		t.Error(x, ok)
	}
}

func TestP22AFallenTailMakesAWriteStable(t *testing.T) {
	p := placeOf(0, chainFrom(impl.StoreNew(), []impl.Ver{tombstone(3, tagAt(1, 0)), value(1, tagAt(2, 0), "b")}))
	x, ok := impl.PlaceFall(p, 1)
	want := []impl.Ver{value(1, tagAt(2, 0), "b"), tombstone(3, tagAt(1, 0))}
	if !ok || !sameVers(x.Log, want) || x.Fell || x.Clock != 2 {
		t.Error(x, ok)
	}
	lost, ok := impl.PlaceFall(p, 0)
	if !ok || len(lost.Log) != 0 || lost.Fell || lost.Clock != 2 || !sameStore(headOf(lost).Store, impl.StoreNew()) {
		t.Error(lost, ok)
	}
}

func TestP22InvalidDataCentres(t *testing.T) {
	for name, p := range badPlaces() {
		for _, node := range []int{-1, 0, 1} {
			x, ok := impl.PlaceFall(p, node)
			mustBeZeroPlace(t, name, x, ok)
		}
	}
}

func TestP23ANewNodeChangesNoKnowledge(t *testing.T) {
	for _, p := range append(placeList(), goodPlace()) {
		x, ok := impl.PlaceJoin(p)
		want, wantOk := joinModel(p)
		if ok != wantOk || !samePlace(x, want) {
			t.Fatalf("PlaceJoin(%v) is %v, %v", p, x, ok)
		}
		mustBeValidPlace(t, x)
		if ok && len(x.Chain.Nodes) != len(p.Chain.Nodes)+1 {
			t.Errorf("PlaceJoin(%v) has %d nodes", p, len(x.Chain.Nodes))
		}
		if !sameVers(x.Log, p.Log) || x.Clock != p.Clock || !samePast(impl.ChainStable(x.Chain), impl.ChainStable(p.Chain)) {
			t.Errorf("PlaceJoin(%v) is %v", p, x)
		}
	}
	for name, p := range badPlaces() {
		x, ok := impl.PlaceJoin(p)
		mustBeZeroPlace(t, name, x, ok)
	}
}

func TestP23ANewNodeRecordsNothing(t *testing.T) {
	p := placeOf(0, chainFrom(sameTagTail()))
	p.Fell = true
	x, ok := impl.PlaceJoin(p)
	if !ok || !x.Fell || len(x.Log) != 0 || len(x.Chain.Nodes) != 2 {
		t.Error(x, ok)
	}
}

// heardBy is versions that a data centre can hear, and others.
func heardBy(p impl.Place) []impl.Ver {
	list := []impl.Ver{value(0, tagAt(1, 0), "x"), tombstone(1, tagAt(500, 1)), value(3, tagAt(999, 2), "12345678"), {}}
	list = append(list, impl.Ver{Key: 2, Tag: tagAt(999, 0), Past: pastOf(tagAt(998, 2), tagAt(1, 0), impl.Tag{}, tagAt(3, 1))})
	for _, log := range append(p.Got, p.Log) {
		if len(log) > 0 {
			list = append(list, log[0], log[len(log)-1], value(2, log[len(log)/2].Tag, "same tag"))
		}
	}
	return list
}

func TestP24RemoteVersionsAreReceivedInOrder(t *testing.T) {
	for _, p := range append(placeList(), goodPlace()) {
		for _, from := range places() {
			ats := []int{0}
			if from >= 0 && from < 3 {
				next := len(p.Got[from])
				ats = []int{math.MinInt, next - 1, next, next + 1, math.MaxInt}
			}
			for _, at := range ats {
				for _, v := range heardBy(p) {
					mustHear(t, p, from, at, v)
				}
			}
		}
	}
}

func mustHear(t *testing.T, p impl.Place, from int, at int, v impl.Ver) {
	t.Helper()
	x, ok := impl.PlaceHear(p, from, at, v)
	want, wantOk := hearModel(p, from, at, v)
	if ok != wantOk || !samePlace(x, want) {
		t.Fatalf("PlaceHear(%v, %d, %d, %v) is %v, %v", p, from, at, v, x, ok)
	}
	if !ok {
		return
	}
	mustBeValidPlace(t, x)
	if !sameChain(x.Chain, p.Chain) || !sameVer(x.Got[from][at], v) {
		t.Errorf("PlaceHear(%v, %d, %d, %v) is %v", p, from, at, v, x)
	}
	for _, again := range []int{at, at + 1} {
		if y, ok := impl.PlaceHear(x, from, again, v); ok || !samePlace(y, x) {
			t.Errorf("PlaceHear(%v, %d, %d, %v) again is %v, %v", x, from, again, v, y, ok)
		}
	}
}

func TestP24TheLogHasAtMostLogMaxVersions(t *testing.T) {
	p := impl.PlaceNew(0, 2)
	for i, v := range logOfLength(2, 60, 1) {
		var ok bool
		p, ok = impl.PlaceHear(p, 2, i, v)
		if !ok || len(p.Got[2]) != i+1 || len(p.Got[1]) != 0 {
			t.Fatal(i, p, ok)
		}
	}
	for _, at := range []int{0, 59, 60, 61} {
		if x, ok := impl.PlaceHear(p, 2, at, value(0, tagAt(500, 2), "x")); ok || !samePlace(x, p) {
			t.Error(at, x, ok)
		}
	}
	if _, ok := impl.PlaceHear(p, 1, 0, value(0, tagAt(500, 1), "x")); !ok {
		t.Error("the other log is empty")
	}
}

func TestP24InvalidVersionsLeaveTheDataCentre(t *testing.T) {
	for name, v := range badVers() {
		for from := 0; from < 3; from++ {
			for _, me := range []int{0, 1, 2} {
				p := impl.PlaceNew(me, 1)
				v := v
				if v.Tag.Place == 1 {
					v.Tag.Place = from
				}
				if x, ok := impl.PlaceHear(p, from, 0, v); ok || !samePlace(x, p) {
					t.Errorf("%s from %d at %d: %v, %v", name, from, me, x, ok)
				}
			}
		}
	}
	for name, p := range badPlaces() {
		for _, v := range []impl.Ver{value(0, tagAt(500, 2), "x"), value(0, tagAt(500, 1), "x"), {}} {
			x, ok := impl.PlaceHear(p, v.Tag.Place, 0, v)
			mustBeZeroPlace(t, name, x, ok)
		}
	}
}

func TestP25RemoteVersionsAreAppliedAfterTheirDependencies(t *testing.T) {
	for _, p := range append(placeList(), goodPlace()) {
		for _, from := range places() {
			x, ok := impl.PlaceTake(p, from)
			want, wantOk := takeModel(p, from)
			if ok != wantOk || !samePlace(x, want) {
				t.Fatalf("PlaceTake(%v, %d) is %v, %v", p, from, x, ok)
			}
			mustBeValidPlace(t, x)
			if ok {
				mustTakeOne(t, p, from, x)
			}
		}
	}
}

func mustTakeOne(t *testing.T, p impl.Place, from int, x impl.Place) {
	t.Helper()
	changed := 0
	for key, v := range headOf(x).Store.Vers {
		if sameVer(v, headOf(p).Store.Vers[key]) {
			continue
		}
		changed++
		if v.Tag.Place != from || !impl.PastWithin(v.Past, impl.ChainStable(p.Chain)) || x.Clock < v.Tag.Time {
			t.Errorf("PlaceTake(%v, %d) takes %v", p, from, v)
		}
	}
	if changed != 1 || x.Clock < p.Clock {
		t.Errorf("PlaceTake(%v, %d) is %v", p, from, x)
	}
	mustLogOwn(t, p, x)
}

func TestP25WhatIsNotLaterIsPassedOver(t *testing.T) {
	p := placeOf(2, chainFrom(impl.Store{Vers: []impl.Ver{value(0, tagAt(5, 1), "a"), {}, {}, {}}}))
	early := impl.Ver{Key: 0, Tag: tagAt(4, 1), Past: pastOf(impl.Tag{}, tagAt(3, 0), impl.Tag{}, impl.Tag{})}
	p.Got[1] = []impl.Ver{early, value(0, tagAt(5, 1), "equal"), tombstone(0, tagAt(6, 1)), value(3, tagAt(7, 1), "b")}
	p.Got[0] = []impl.Ver{value(0, tagAt(5, 0), "earlier")}
	x, ok := impl.PlaceTake(p, 1)
	if !ok || !sameVer(headOf(x).Store.Vers[0], tombstone(0, tagAt(6, 1))) || x.Clock != 6 {
		t.Fatal(x, ok)
	}
	x, ok = impl.PlaceTake(x, 1)
	if !ok || headOf(x).Store.Vers[3].Text != "b" || x.Clock != 7 || !sameVers(x.Got[1], p.Got[1]) {
		t.Fatal(x, ok)
	}
	for from := -1; from <= 3; from++ {
		if y, ok := impl.PlaceTake(x, from); ok || !samePlace(x, y) {
			t.Errorf("from %d: %v, %v", from, y, ok)
		}
	}
}

func TestP25AVersionWaitsForItsDependencies(t *testing.T) {
	p := impl.PlaceNew(2, 2)
	p, _ = impl.PlaceHear(p, 0, 0, value(0, tagAt(4, 0), "x"))
	p, _ = impl.PlaceHear(p, 1, 0, impl.Ver{Key: 1, Tag: tagAt(5, 1), Past: pastOf(tagAt(4, 0), impl.Tag{}, impl.Tag{}, impl.Tag{}), Text: "y"})
	// The second one depends on nothing, and must not overtake the first one.
	p, _ = impl.PlaceHear(p, 1, 1, value(2, tagAt(6, 1), "z"))
	stays := func(p impl.Place) {
		t.Helper()
		if x, ok := impl.PlaceTake(p, 1); ok || !samePlace(x, p) {
			t.Error(x, ok)
		}
	}
	stays(p)
	p, ok := impl.PlaceTake(p, 0)
	if !ok || p.Clock != 4 {
		t.Fatal(p, ok)
	}
	stays(p)
	p, _ = impl.PlacePass(p, 0)
	p, ok = impl.PlaceTake(p, 1)
	if !ok || headOf(p).Store.Vers[1].Text != "y" || p.Clock != 5 || len(p.Log) != 0 {
		t.Error(p, ok)
	}
}

func TestP25SixWaitAtTheHead(t *testing.T) {
	p := placeOf(2, chainFrom(impl.StoreNew(), sixWaiting(1)))
	p.Got[0] = []impl.Ver{value(3, tagAt(9, 0), "x")}
	if x, ok := impl.PlaceTake(p, 0); ok || !samePlace(x, p) {
		t.Error(x, ok)
	}
	p, _ = impl.PlacePass(p, 0)
	if x, ok := impl.PlaceTake(p, 0); !ok || len(headOf(x).Wait) != 6 {
		t.Error(x, ok)
	}
}

func TestP25TheClockDoesNotGoBack(t *testing.T) {
	p := impl.PlaceNew(0, 1)
	p.Clock = 999
	p.Fell = true
	p.Got[1] = []impl.Ver{value(3, tagAt(9, 1), "x")}
	if x, ok := impl.PlaceTake(p, 1); !ok || x.Clock != 999 || x.Fell {
		t.Error(x, ok)
	}
}

func TestP25InvalidDataCentres(t *testing.T) {
	for name, p := range badPlaces() {
		for from := -1; from <= 3; from++ {
			x, ok := impl.PlaceTake(p, from)
			mustBeZeroPlace(t, name, x, ok)
		}
	}
}

func TestP74TimesStrictlyIncrease(t *testing.T) {
	for _, p := range append(placeList(), goodPlace()) {
		for _, past := range []impl.Past{impl.PastNone(), stableOf(p)} {
			for _, key := range []int{0, 1, 3} {
				x, first := impl.PlaceWrite(p, 0, "a", false, past)
				y, second := impl.PlaceWrite(x, key, "", true, past)
				if first.Time == 0 || second.Time == 0 {
					continue
				}
				if second.Time != first.Time+1 || y.Clock != second.Time || headOf(y).Store.Vers[key].Tag != second {
					t.Errorf("%v has the tags %v and %v, then it is %v", p, first, second, y)
				}
			}
		}
	}
}

// TestDataCentresThatTellEachOther plays at random with three data centres from new
// ones on, and holds each step against the document.
func TestDataCentresThatTellEachOther(t *testing.T) {
	for seed := int64(0); seed < 40; seed++ {
		r := rand.New(rand.NewSource(seed))
		var list []impl.Place
		for me := 0; me < 3; me++ {
			list = append(list, impl.PlaceNew(me, 1+r.Intn(4)))
		}
		for step := 0; step < 250; step++ {
			at := r.Intn(3)
			before := list[at]
			list[at] = mustStep(t, r, list, at)
			mustBeValidPlace(t, list[at])
			if list[at].Clock < before.Clock || !impl.PastWithin(impl.ChainStable(before.Chain), impl.ChainStable(list[at].Chain)) {
				t.Fatalf("%v becomes %v", before, list[at])
			}
			mustLogOwn(t, before, list[at])
		}
	}
}

func mustStep(t *testing.T, r *rand.Rand, list []impl.Place, at int) impl.Place {
	t.Helper()
	p := list[at]
	from := (at + 1 + r.Intn(2)) % 3
	next := len(p.Got[from])
	var x, want impl.Place
	switch kind := r.Intn(10); {
	case kind < 2:
		past := impl.PastNone()
		if r.Intn(2) == 0 {
			past = stableOf(p)
		}
		key, gone := r.Intn(4), r.Intn(3) == 0
		x, _ = impl.PlaceWrite(p, key, "", gone, past)
		want, _ = writeModel(p, key, "", gone, past)
	case kind < 5:
		node := r.Intn(len(p.Chain.Nodes))
		x, _ = impl.PlacePass(p, node)
		want, _ = passModel(p, node)
	case kind == 5:
		node := r.Intn(len(p.Chain.Nodes))
		x, _ = impl.PlaceFall(p, node)
		want, _ = fallModel(p, node)
	case kind == 6:
		x, _ = impl.PlaceJoin(p)
		want, _ = joinModel(p)
	case kind < 9 && next < len(list[from].Log):
		x, _ = impl.PlaceHear(p, from, next, list[from].Log[next])
		want, _ = hearModel(p, from, next, list[from].Log[next])
	default:
		x, _ = impl.PlaceTake(p, from)
		want, _ = takeModel(p, from)
	}
	if !samePlace(x, want) {
		t.Fatalf("%v becomes %v instead of %v", p, x, want)
	}
	return x
}
