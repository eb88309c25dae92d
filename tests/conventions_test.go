package tests

import (
	"fmt"
	"math"
	"math/rand"
	"reflect"
	"slices"
	"strings"
	"testing"

	"loop.example/confluence/impl"
)

// call is a function with its arguments; the arguments are made for this call alone.
type call struct {
	name string
	f    any
	args []any
}

// run performs a call and returns its results; a panic is an error of the test.
func (c call) run(t *testing.T) (results []reflect.Value) {
	defer func() {
		if p := recover(); p != nil {
			t.Errorf("%s%v panics: %v", c.name, c.args, p)
		}
	}()
	var in []reflect.Value
	for _, a := range c.args {
		in = append(in, reflect.ValueOf(a))
	}
	return reflect.ValueOf(c.f).Call(in)
}

// span is the memory of a slice, with its spare capacity.
type span struct {
	from, to uintptr
}

func (s span) meets(other span) bool {
	return s.from < other.to && other.from < s.to
}

// spans lists the memory of all slices in v, and of those in spare capacity.
func spans(v reflect.Value) []span {
	var list []span
	switch v.Kind() {
	case reflect.Slice:
		if v.Cap() > 0 {
			list = append(list, span{v.Pointer(), v.Pointer() + uintptr(v.Cap())*v.Type().Elem().Size()})
		}
		for i := 0; i < v.Cap(); i++ {
			list = append(list, spans(v.Slice(0, v.Cap()).Index(i))...)
		}
	case reflect.Struct:
		for i := 0; i < v.NumField(); i++ {
			list = append(list, spans(v.Field(i))...)
		}
	}
	return list
}

// picture writes v with the spare capacity of its slices.
func picture(v reflect.Value) string {
	switch v.Kind() {
	case reflect.Slice:
		s := fmt.Sprintf("%d of [", v.Len())
		for i := 0; i < v.Cap(); i++ {
			s += picture(v.Slice(0, v.Cap()).Index(i)) + " "
		}
		return s + "]"
	case reflect.Struct:
		s := "{"
		for i := 0; i < v.NumField(); i++ {
			s += picture(v.Field(i)) + " "
		}
		return s + "}"
	}
	return fmt.Sprintf("%#v", v.Interface())
}

// picture writes the arguments of a call.
func (c call) picture() string {
	s := ""
	for _, a := range c.args {
		s += picture(reflect.ValueOf(a)) + " "
	}
	return s
}

// roomy is p in a slice with spare capacity that is not zero.
func roomy(p impl.Past) impl.Past {
	tags := make([]impl.Tag, len(p.Tags), len(p.Tags)+2)
	copy(tags, p.Tags)
	full := tags[:cap(tags)]
	full[len(tags)], full[len(tags)+1] = tagAt(7, 1), tagAt(8, 2)
	return impl.Past{Tags: tags}
}

func roomyVer(v impl.Ver) impl.Ver {
	v.Past = roomy(v.Past)
	return v
}

func roomyStore(s impl.Store) impl.Store {
	vers := make([]impl.Ver, len(s.Vers), len(s.Vers)+1)
	for i, v := range s.Vers {
		vers[i] = roomyVer(v)
	}
	vers[:cap(vers)][len(vers)] = value(0, tagAt(9, 0), "spare")
	return impl.Store{Vers: vers}
}

// sharedStore has versions whose slices are one and the same.
func sharedStore() impl.Store {
	p := roomy(impl.PastNone())
	s := impl.StoreNew()
	for k := range s.Vers {
		s.Vers[k] = impl.Ver{Key: k, Tag: tagAt(k+1, 0), Past: p, Text: "a"}
	}
	return s
}

func tagCalls() []call {
	var list []call
	for _, a := range tagList() {
		list = append(list, call{"TagOk", impl.TagOk, []any{a}}, call{"TagPut", impl.TagPut, []any{a}})
		for _, b := range tagList() {
			list = append(list, call{"TagLess", impl.TagLess, []any{a, b}}, call{"TagMax", impl.TagMax, []any{a, b}})
		}
	}
	return list
}

func textCalls() []call {
	r := rand.New(rand.NewSource(5))
	list := []call{{"TagGet", impl.TagGet, []any{""}}, {"VerGet", impl.VerGet, []any{""}}}
	for _, v := range verList() {
		list = append(list, call{"VerGet", impl.VerGet, []any{verText(v)}})
	}
	for i := 0; i < 3000; i++ {
		b := make([]byte, r.Intn(40))
		for j := range b {
			b[j] = "0123.-= a\xff"[r.Intn(10)]
		}
		list = append(list, call{"TagGet", impl.TagGet, []any{string(b)}}, call{"VerGet", impl.VerGet, []any{string(b)}})
	}
	return list
}

func pastCalls() []call {
	list := []call{{"PastNone", impl.PastNone, nil}}
	pasts := append(pastList()[:12], badPasts()...)
	for _, a := range pasts {
		list = append(list, call{"PastOk", impl.PastOk, []any{roomy(a)}})
		for _, b := range pasts {
			list = append(list, call{"PastJoin", impl.PastJoin, []any{roomy(a), roomy(b)}}, call{"PastWithin", impl.PastWithin, []any{roomy(a), roomy(b)}})
		}
		same := roomy(a)
		list = append(list, call{"PastJoin", impl.PastJoin, []any{same, same}})
	}
	return list
}

func manyVers() []impl.Ver {
	list := append(verList()[:12], impl.Ver{})
	for _, v := range badVers() {
		list = append(list, v)
	}
	for _, v := range nearZeroVers() {
		list = append(list, v)
	}
	return list
}

func manyStores() []impl.Store {
	list := append(storeList()[:12], sharedStore())
	for name, s := range badStores() {
		if len(name) < 10 {
			list = append(list, s)
		}
	}
	return list
}

func storeCalls() []call {
	list := []call{{"StoreNew", impl.StoreNew, nil}}
	for _, v := range manyVers() {
		list = append(list, call{"VerOk", impl.VerOk, []any{roomyVer(v)}}, call{"VerPut", impl.VerPut, []any{roomyVer(v)}})
	}
	for _, s := range manyStores() {
		list = append(list, call{"StoreOk", impl.StoreOk, []any{roomyStore(s)}}, call{"StoreTags", impl.StoreTags, []any{roomyStore(s)}}, call{"StoreClosed", impl.StoreClosed, []any{roomyStore(s)}})
		for _, v := range manyVers() {
			list = append(list, call{"StoreAdd", impl.StoreAdd, []any{roomyStore(s), roomyVer(v)}})
		}
		for _, other := range manyStores() {
			list = append(list, call{"StoreJoin", impl.StoreJoin, []any{roomyStore(s), roomyStore(other)}})
		}
		same := roomyStore(s)
		list = append(list, call{"StoreJoin", impl.StoreJoin, []any{same, same}})
	}
	shared := sharedStore()
	list = append(list, call{"StoreJoin", impl.StoreJoin, []any{shared, shared}})
	late := impl.Ver{Key: 1, Tag: tagAt(9, 0), Past: shared.Vers[0].Past, Text: "b"}
	return append(list, call{"StoreAdd", impl.StoreAdd, []any{shared, late}})
}

func roomyChain(c impl.Chain) impl.Chain {
	nodes := make([]impl.Node, len(c.Nodes), len(c.Nodes)+2)
	for i, n := range c.Nodes {
		nodes[i] = impl.Node{Store: roomyStore(n.Store), Wait: roomyStore(impl.Store{Vers: n.Wait}).Vers}
	}
	nodes[:cap(nodes)][len(nodes)] = impl.Node{Store: impl.StoreNew()}
	return impl.Chain{Nodes: nodes}
}

// sharedChain has nodes that share a store, and a waiting version that shares with it.
func sharedChain() impl.Chain {
	s := sharedStore()
	head := roomyStore(s)
	wait := impl.Ver{Key: 1, Tag: tagAt(9, 0), Past: s.Vers[0].Past, Text: "b"}
	head.Vers[1] = wait
	return impl.Chain{Nodes: []impl.Node{{Store: head, Wait: []impl.Ver{wait}}, {Store: s}, {Store: s}}}
}

func manyChains() []impl.Chain {
	list := append(chainList()[:30], goodChain(), sharedChain())
	for name, c := range badChains() {
		if len(name) < 20 {
			list = append(list, c)
		}
	}
	return list
}

func chainCalls() []call {
	var list []call
	add := func(c impl.Chain) {
		list = append(list, call{"ChainOk", impl.ChainOk, []any{c}}, call{"ChainStable", impl.ChainStable, []any{c}}, call{"ChainJoin", impl.ChainJoin, []any{c}})
		for _, k := range places() {
			list = append(list, call{"ChainPass", impl.ChainPass, []any{c, k}}, call{"ChainFall", impl.ChainFall, []any{c, k}})
			list = append(list, call{"ChainShows", impl.ChainShows, []any{c, k, 1}}, call{"ChainShows", impl.ChainShows, []any{c, 0, k}})
		}
		for _, v := range verList()[:9] {
			list = append(list, call{"ChainPut", impl.ChainPut, []any{c, roomyVer(v)}})
		}
		list = append(list, call{"ChainPut", impl.ChainPut, []any{c, impl.Ver{}}})
	}
	for _, c := range manyChains() {
		add(roomyChain(c))
	}
	add(sharedChain())
	for _, v := range manyVers() {
		list = append(list, call{"ChainPut", impl.ChainPut, []any{roomyChain(goodChain()), roomyVer(v)}})
	}
	for _, n := range places() {
		list = append(list, call{"ChainNew", impl.ChainNew, []any{n}})
	}
	return list
}

func roomyPlace(p impl.Place) impl.Place {
	roomyVers := func(list []impl.Ver) []impl.Ver {
		return roomyStore(impl.Store{Vers: list}).Vers
	}
	p.Chain, p.Log = roomyChain(p.Chain), roomyVers(p.Log)
	got := make([][]impl.Ver, len(p.Got), len(p.Got)+1)
	for i, log := range p.Got {
		got[i] = roomyVers(log)
	}
	got[:cap(got)][len(got)] = []impl.Ver{value(0, tagAt(9, 0), "spare")}
	p.Got = got
	return p
}

// sharedPlace has logs that share with each other and with the chain.
func sharedPlace() impl.Place {
	c := sharedChain()
	past := c.Nodes[0].Store.Vers[0].Past
	both := []impl.Ver{{Key: 0, Tag: tagAt(1, 0), Past: past, Text: "a"}, {Key: 3, Tag: tagAt(10, 1), Past: past}, {Key: 2, Tag: tagAt(11, 2), Past: past, Gone: true}}
	return impl.Place{Clock: 9, Chain: c, Log: both[:1], Got: [][]impl.Ver{both[1:1], both[1:2], both[2:]}, Fell: false}
}

func manyPlaces() []impl.Place {
	list := append(newPlaces()[:5], goodPlace(), sharedPlace())
	for i, p := range edgePlaces() {
		if i%5 == 0 && len(p.Log) < 60 && len(p.Got[1]) < 60 {
			list = append(list, p)
		}
	}
	for i, p := range placeList() {
		if i%8 == 0 && len(p.Log) < 30 && len(p.Got[1]) < 30 {
			list = append(list, p)
		}
	}
	for name, p := range badPlaces() {
		if len(name) < 13 {
			list = append(list, p)
		}
	}
	return list
}

// callsWith is a few calls of every function that takes a data centre.
func callsWith(p impl.Place) []call {
	list := []call{{"PlaceOk", impl.PlaceOk, []any{p}}, {"PlaceJoin", impl.PlaceJoin, []any{p}}}
	for from := -1; from <= 3; from++ {
		at := 0
		if from >= 0 && from < len(p.Got) {
			at = len(p.Got[from])
		}
		heard := roomyVer(tombstone(1, tagAt(99, from)))
		list = append(list, call{"PlaceTake", impl.PlaceTake, []any{p, from}}, call{"PlaceHear", impl.PlaceHear, []any{p, from, at, heard}})
	}
	for node := -1; node <= 4; node++ {
		list = append(list, call{"PlacePass", impl.PlacePass, []any{p, node}}, call{"PlaceFall", impl.PlaceFall, []any{p, node}})
		list = append(list, call{"PlaceWrite", impl.PlaceWrite, []any{p, node, "a", false, roomy(impl.PastNone())}})
	}
	return list
}

func placeCalls() []call {
	list := callsWith(sharedPlace())
	for _, p := range manyPlaces() {
		list = append(list, callsWith(roomyPlace(p))...)
	}
	good := roomyPlace(goodPlace())
	for _, k := range places() {
		list = append(list, call{"PlaceNew", impl.PlaceNew, []any{k, 1}}, call{"PlaceNew", impl.PlaceNew, []any{1, k}})
		list = append(list, call{"PlacePass", impl.PlacePass, []any{good, k}}, call{"PlaceFall", impl.PlaceFall, []any{good, k}})
		list = append(list, call{"PlaceTake", impl.PlaceTake, []any{good, k}}, call{"PlaceHear", impl.PlaceHear, []any{good, 2, k, value(0, tagAt(99, 2), "x")}})
		list = append(list, call{"PlaceHear", impl.PlaceHear, []any{good, k, 0, value(0, tagAt(99, 2), "x")}}, call{"PlaceWrite", impl.PlaceWrite, []any{good, k, "", true, impl.PastNone()}})
	}
	for _, v := range manyVers() {
		list = append(list, call{"PlaceHear", impl.PlaceHear, []any{good, 2, 2, roomyVer(v)}})
		list = append(list, call{"PlaceWrite", impl.PlaceWrite, []any{good, v.Key, v.Text, v.Gone, roomy(v.Past)}})
	}
	shared := sharedPlace()
	past := shared.Chain.Nodes[0].Store.Vers[0].Past
	list = append(list, call{"PlaceWrite", impl.PlaceWrite, []any{shared, 2, "x", false, past}})
	return append(list, call{"PlaceHear", impl.PlaceHear, []any{shared, 1, 1, impl.Ver{Key: 1, Tag: tagAt(99, 1), Past: past}}})
}

// roomyList is a copy with spare capacity that is not zero.
func roomyList[T any](list []T, spare T) []T {
	out := append(make([]T, 0, len(list)+2), list...)
	full := out[:cap(out)]
	full[len(out)], full[len(out)+1] = spare, spare
	return out
}

func roomyWorld(w impl.World) impl.World {
	w = copyOfWorld(w)
	for i, p := range w.Places {
		w.Places[i] = roomyPlace(p)
	}
	for i, s := range w.Sess {
		w.Sess[i].Past = roomy(s.Past)
	}
	for i, f := range w.Net {
		w.Net[i].Ver = roomyVer(f.Ver)
	}
	w.Places, w.Hist = roomyList(w.Places, impl.PlaceNew(2, 1)), roomyList(w.Hist, wrote(3, 3, tagAt(9, 0)))
	w.Sess = roomyList(w.Sess, impl.Sess{Place: 2, Past: impl.PastNone()})
	w.Net = roomyList(w.Net, impl.Frame{From: 1, To: 2, Ver: value(0, tagAt(9, 1), "spare")})
	return w
}

// sharedWorld has data centres that share their stores and logs, and frames and clients
// that share with those.
func sharedWorld() impl.World {
	store := sharedStore()
	past := store.Vers[0].Past
	log := []impl.Ver{store.Vers[0], store.Vers[1], store.Vers[2], {Key: 3, Tag: tagAt(9, 0), Past: past}}
	var w impl.World
	for me := 0; me < 3; me++ {
		w.Places = append(w.Places, impl.Place{Me: me, Clock: 9, Chain: impl.Chain{Nodes: []impl.Node{{Store: store}, {Store: store}}}, Got: [][]impl.Ver{log[:2], nil, nil}})
	}
	w.Places[0].Log, w.Places[0].Got[0] = log, nil
	for _, place := range []int{0, 1, 2, 0} {
		w.Sess = append(w.Sess, impl.Sess{Place: place, Past: past})
	}
	w.Sess[3].Wait, w.Sess[3].Key = tagAt(1, 0), 0
	w.Net = []impl.Frame{{From: 0, To: 1, At: 2, Ver: log[2]}, {From: 0, To: 2, At: 2, Ver: log[2]}, {From: 0, To: 2, At: 3, Ver: log[3]}}
	w.Hist = []impl.Done{wrote(3, 0, tagAt(1, 0))}
	return w
}

func manyWorlds() []impl.World {
	list := []impl.World{storyWorld(), newWorldModel(1, 0), newWorldModel(4, 4), sharedWorld(), {}}
	for seed := int64(0); seed < 4; seed++ {
		list = append(list, steppedWorld(seed, 1+int(seed), 4, 60))
	}
	for i, w := range edgeWorlds() {
		if i%3 == 0 {
			list = append(list, w)
		}
	}
	for name, w := range badWorlds() {
		if len(name) < 14 {
			list = append(list, w)
		}
	}
	return list
}

// callsOf is a few calls of every function that takes a world.
func callsOf(w impl.World) []call {
	list := []call{{"WorldOk", impl.WorldOk, []any{w}}, {"WorldSafe", impl.WorldSafe, []any{w}}, {"WorldSame", impl.WorldSame, []any{w}}}
	for _, rounds := range []int{-1, 0, 1, 2, 81} {
		list = append(list, call{"WorldCalm", impl.WorldCalm, []any{w, rounds}})
	}
	for kind := 0; kind <= 14; kind++ {
		for at := 0; at <= 3; at++ {
			list = append(list, call{"WorldDo", impl.WorldDo, []any{w, impl.Event{Kind: kind, At: at, Num: (at + 1) % 3}}})
		}
		list = append(list, call{"WorldDo", impl.WorldDo, []any{w, impl.Event{Kind: kind, Num: -1, Key: 9}}})
	}
	return list
}

func worldCalls() []call {
	list := callsOf(sharedWorld())
	for _, w := range manyWorlds() {
		list = append(list, callsOf(roomyWorld(w))...)
	}
	r := rand.New(rand.NewSource(27))
	for _, n := range extremes() {
		for _, e := range []impl.Event{{At: n, Num: 1}, {At: 3, Num: n}, {Num: 1, Key: n}} {
			for e.Kind = 1; e.Kind <= 13; e.Kind++ {
				list = append(list, call{"WorldDo", impl.WorldDo, []any{sharedWorld(), e}})
			}
		}
		list = append(list, call{"WorldNew", impl.WorldNew, []any{n, 4}}, call{"WorldNew", impl.WorldNew, []any{2, n}})
		events := roomyList(someEvents(r, 2, 4, 70), impl.Event{Kind: impl.EventJoin})
		list = append(list, call{"WorldPlay", impl.WorldPlay, []any{n, 4, events}}, call{"WorldPlay", impl.WorldPlay, []any{2, n, events[:50]}})
	}
	return list
}

func histCalls() []call {
	list := []call{{"HistGet", impl.HistGet, []any{""}}}
	add := func(hist []impl.Done) {
		hist = roomyList(hist, impl.Done{Sess: 9})
		list = append(list, call{"HistOk", impl.HistOk, []any{hist}}, call{"HistFar", impl.HistFar, []any{hist}}, call{"HistPut", impl.HistPut, []any{hist}})
		for _, sess := range places() {
			list = append(list, call{"HistSees", impl.HistSees, []any{hist, sess}})
		}
	}
	for i, hist := range histList() {
		if i%4 == 0 {
			add(hist)
			list = append(list, call{"HistGet", impl.HistGet, []any{histText(hist)}})
		}
	}
	for _, hist := range badHists() {
		add(hist)
	}
	for _, s := range neighbours("1 write 2 13.0\n3 sure 0 1.2\n") {
		list = append(list, call{"HistGet", impl.HistGet, []any{s}})
	}
	return list
}

func roomyFrame(f impl.Frame) impl.Frame {
	f.Ver = roomyVer(f.Ver)
	return f
}

func wireCalls() []call {
	var list []call
	for _, s := range append(sumTexts()[:9], strings.Repeat("#", 120), strings.Repeat(">", 121), strings.Repeat(" ", 5000)) {
		list = append(list, call{"Crc", impl.Crc, []any{s}}, call{"FrameGet", impl.FrameGet, []any{s}}, call{"FrameGet", impl.FrameGet, []any{summed(s)}})
	}
	for i, f := range frameList() {
		if i%4 == 0 {
			list = append(list, call{"FramePut", impl.FramePut, []any{roomyFrame(f)}}, call{"FrameGet", impl.FrameGet, []any{summed(bodyText(f))}})
		}
	}
	for _, f := range badFrames() {
		list = append(list, call{"FramePut", impl.FramePut, []any{roomyFrame(f)}})
	}
	for _, s := range neighbours(bodyText(longFrame())) {
		list = append(list, call{"FrameGet", impl.FrameGet, []any{summed(s)}})
	}
	for _, p := range manyPlaces() {
		for to := -1; to <= 3; to++ {
			list = append(list, call{"PlaceTold", impl.PlaceTold, []any{roomyPlace(p), to, 0}})
		}
	}
	for _, n := range extremes() {
		list = append(list, call{"PlaceTold", impl.PlaceTold, []any{sharedPlace(), n, 0}}, call{"PlaceTold", impl.PlaceTold, []any{sharedPlace(), 1, n}})
	}
	return list
}

func causeCalls() []call {
	var list []call
	add := func(hist []impl.Done) {
		hist = roomyList(hist, impl.Done{Sess: 9})
		list = append(list, call{"CauseAll", impl.CauseAll, []any{hist}})
		for _, a := range []impl.Tag{{}, tagAt(1, 0), tagAt(2, 1), tagAt(-1, 5), tagAt(math.MaxInt, math.MinInt)} {
			list = append(list, call{"CauseOf", impl.CauseOf, []any{hist, a}}, call{"CauseApart", impl.CauseApart, []any{hist, a}})
			list = append(list, call{"CauseAhead", impl.CauseAhead, []any{hist, a, tagAt(2, 1)}}, call{"CauseAhead", impl.CauseAhead, []any{hist, tagAt(1, 0), a}})
		}
	}
	for i, hist := range append(histList(), threeWrites(), writesAside()) {
		if i%4 == 0 {
			add(hist)
		}
	}
	for _, hist := range badHists() {
		add(hist)
	}
	for _, w := range manyWorlds() {
		w = roomyWorld(w)
		list = append(list, call{"WorldLag", impl.WorldLag, []any{w}})
		for n := -1; n <= 4; n++ {
			list = append(list, call{"WorldNodes", impl.WorldNodes, []any{w, n, 1}}, call{"WorldNodes", impl.WorldNodes, []any{w, 0, n}})
		}
	}
	for _, n := range extremes() {
		list = append(list, call{"WorldNodes", impl.WorldNodes, []any{sharedWorld(), n, 1}}, call{"WorldNodes", impl.WorldNodes, []any{sharedWorld(), 1, n}})
	}
	return list
}

func sessionCalls() []call {
	r := rand.New(rand.NewSource(9))
	sessions := [][]string{nil, {}, {""}, {"world"}, {"world 5 5", "safe"}, {"safe"}, linesOf(documentSession())}
	for i := 0; i < 12; i++ {
		sessions = append(sessions, someSession(r, 20+5*i))
	}
	for _, line := range goodLines() {
		sessions = append(sessions, []string{line}, append([]string{"world 2 2"}, brokenLines(line)...))
		for _, word := range badNumbers() {
			sessions = append(sessions, append([]string{"world 2 2"}, withNumber(line, word)...))
		}
	}
	for _, line := range []string{strings.Repeat(" ", 5000), strings.Repeat("9", 5000), "write 0 0 =" + strings.Repeat("=", 5000), "\xff\x00\n"} {
		sessions = append(sessions, []string{line, line}, []string{"world 1 1", line}, slices.Repeat([]string{line}, 500))
	}
	var list []call
	for _, lines := range sessions {
		list = append(list, call{"Session", impl.Session, []any{roomyList(lines, "join 0")}})
	}
	return list
}

func ringCalls() []call {
	var list []call
	rings := ringList()[:24]
	for _, r := range badRings() {
		if len(r.Names) < 3 || len(r.Names) > 6 {
			rings = append(rings, r)
		}
	}
	names := append(nameList()[:6], badNames()[:6]...)
	keys := append(ringKeys()[:4], badKeys()...)
	for _, r := range rings {
		r = impl.Ring{Names: roomyList(r.Names, "spare")}
		list = append(list, call{"RingOk", impl.RingOk, []any{r}})
		for _, name := range append(names, r.Names...) {
			list = append(list, call{"RingAdd", impl.RingAdd, []any{r, name}}, call{"RingDrop", impl.RingDrop, []any{r, name}})
		}
		for _, key := range keys {
			list = append(list, call{"RingOwner", impl.RingOwner, []any{r, key}}, call{"RingChain", impl.RingChain, []any{r, key, 2}}, call{"RingChain", impl.RingChain, []any{r, key, 6}})
		}
		for _, many := range []int{math.MinInt, -1, 0, 1, 7, math.MaxInt} {
			list = append(list, call{"RingChain", impl.RingChain, []any{r, "a", many}})
		}
		for _, other := range rings[:6] {
			other = impl.Ring{Names: roomyList(other.Names, "spare")}
			list = append(list, call{"RingMoved", impl.RingMoved, []any{r, other, roomyList(keys, "spare")}})
		}
		list = append(list, call{"RingMoved", impl.RingMoved, []any{r, r, r.Names}}, call{"RingMoved", impl.RingMoved, []any{r, r, []string(nil)}})
	}
	return list
}

func guardCalls() []call {
	var list []call
	add := func(hist []impl.Done) {
		hist = roomyList(hist, impl.Done{Sess: 9})
		list = append(list, call{"GuardWritten", impl.GuardWritten, []any{hist}}, call{"GuardReads", impl.GuardReads, []any{hist}})
		list = append(list, call{"GuardOwn", impl.GuardOwn, []any{hist}}, call{"GuardFollow", impl.GuardFollow, []any{hist}})
		for _, sess := range places() {
			list = append(list, call{"GuardOnly", impl.GuardOnly, []any{hist, sess}})
		}
	}
	for i, hist := range guardList() {
		if i%20 == 0 {
			add(hist)
		}
	}
	add(nil)
	// A history of one client alone is the one that could be handed on as it is.
	add(readsOfNothing(1, 80))
	for _, hist := range badHists() {
		add(hist)
	}
	return list
}

func roomyRec(r impl.Rec) impl.Rec {
	r.Ver = roomyVer(r.Ver)
	return r
}

func recCalls() []call {
	var list []call
	good := roomyPlace(goodPlace())
	for i, r := range recList() {
		if i%5 == 0 {
			list = append(list, call{"RecPut", impl.RecPut, []any{roomyRec(r)}}, call{"RecGet", impl.RecGet, []any{recText(r)}}, call{"RecDo", impl.RecDo, []any{good, roomyRec(r)}})
		}
	}
	for _, r := range badRecs() {
		list = append(list, call{"RecPut", impl.RecPut, []any{roomyRec(r)}}, call{"RecDo", impl.RecDo, []any{good, roomyRec(r)}}, call{"RecDo", impl.RecDo, []any{impl.Place{}, roomyRec(r)}})
	}
	for _, s := range append(neighbours("write 1 0.0 2.1 0.0 0.0 =a"), neighbours("hear 1 9 0 3.1 0.0 0.0 0.0 2.0 -")...) {
		list = append(list, call{"RecGet", impl.RecGet, []any{s}})
	}
	shared := sharedPlace()
	past := shared.Chain.Nodes[0].Store.Vers[0].Past
	recs := append(stepRecs(), hearRec(1, 1, value(1, tagAt(99, 1), "a")), writeRec(2, "x", impl.PastNone()), impl.Rec{Kind: -1})
	for _, p := range append(manyPlaces(), shared) {
		for _, r := range recs {
			list = append(list, call{"RecDo", impl.RecDo, []any{roomyPlace(p), roomyRec(r)}})
		}
	}
	for _, r := range append(recs, writeRec(2, "x", past), hearRec(1, 1, impl.Ver{Key: 1, Tag: tagAt(99, 1), Past: past})) {
		list = append(list, call{"RecDo", impl.RecDo, []any{shared, r}})
	}
	return list
}

func jourCalls() []call {
	r := rand.New(rand.NewSource(12))
	var list []call
	add := func(j string) {
		list = append(list, call{"JourRead", impl.JourRead, []any{j}})
		for _, rec := range []impl.Rec{{}, {Kind: impl.EventJoin}, writeRec(1, "a", impl.PastNone()), hearRec(2, 0, value(1, tagAt(9, 2), "a"))} {
			list = append(list, call{"JourAdd", impl.JourAdd, []any{j, roomyRec(rec)}})
			for _, bytes := range []int{math.MinInt, -1, 0, 9, math.MaxInt} {
				list = append(list, call{"JourTear", impl.JourTear, []any{j, roomyRec(rec), bytes}})
			}
		}
	}
	for i := 0; i < 12; i++ {
		j, _ := someJour(r, i%3, 1+i%4, 2*i)
		add(j)
		add(j[:len(j)-1])
		add(j[1:])
	}
	for _, j := range []string{"", "\n", " ", "0 1", "9 9\n", fullJour(8000), fullJour(8001), strings.Repeat(" ", 9000), "0 1\n" + strings.Repeat(" ", 5000), "0 1\n" + strings.Repeat("9", 5000), "0 1\n9223372036854775807 0 join;", "0 1\n-9223372036854775808 0 join;", "0 1\n" + strings.Repeat(";", 5000)} {
		add(j)
	}
	for _, broken := range brokenEntries("join") {
		add("1 2\n" + broken)
	}
	for _, k := range places() {
		list = append(list, call{"JourNew", impl.JourNew, []any{k, 1}}, call{"JourNew", impl.JourNew, []any{1, k}})
	}
	return list
}

func allCalls() []call {
	list := append(tagCalls(), textCalls()...)
	list = append(list, pastCalls()...)
	list = append(list, storeCalls()...)
	list = append(list, chainCalls()...)
	list = append(list, placeCalls()...)
	list = append(list, worldCalls()...)
	list = append(list, histCalls()...)
	list = append(list, wireCalls()...)
	list = append(list, causeCalls()...)
	list = append(list, sessionCalls()...)
	list = append(list, ringCalls()...)
	list = append(list, guardCalls()...)
	list = append(list, recCalls()...)
	return append(list, jourCalls()...)
}

func TestFunctionsReturnAndChangeNoArgument(t *testing.T) {
	for _, c := range allCalls() {
		before := c.picture()
		c.run(t)
		if after := c.picture(); before != after {
			t.Errorf("%s changes its arguments: %s becomes %s", c.name, before, after)
		}
	}
}

func TestResultsShareNoMemory(t *testing.T) {
	for _, c := range allCalls() {
		var given, made []span
		for _, a := range c.args {
			given = append(given, spans(reflect.ValueOf(a))...)
		}
		for _, r := range c.run(t) {
			made = append(made, spans(r)...)
		}
		for i, m := range made {
			for _, g := range given {
				if m.meets(g) {
					t.Errorf("%s%v shares memory with an argument", c.name, c.args)
				}
			}
			for _, other := range made[:i] {
				if m.meets(other) {
					t.Errorf("%s%v shares memory within its result", c.name, c.args)
				}
			}
		}
	}
}

func TestFunctionsKeepNoState(t *testing.T) {
	for _, c := range allCalls() {
		first := c.run(t)
		text := pictures(first)
		for _, r := range first {
			spoil(r)
		}
		if again := pictures(c.run(t)); again != text {
			t.Errorf("%s%v is first %s, then %s", c.name, c.args, text, again)
		}
	}
}

// pictures writes results without their spare capacity, which is no part of the value.
func pictures(list []reflect.Value) string {
	s := ""
	for _, v := range list {
		s += fmt.Sprintf("%v ", v.Interface())
	}
	return s
}

// spoil overwrites all elements of all slices in v.
func spoil(v reflect.Value) {
	switch v.Kind() {
	case reflect.Slice:
		for i := 0; i < v.Len(); i++ {
			spoil(v.Index(i))
		}
	case reflect.Struct:
		for i := 0; i < v.NumField(); i++ {
			spoil(v.Field(i))
		}
	case reflect.Int:
		if v.CanSet() {
			v.SetInt(77)
		}
	case reflect.String:
		if v.CanSet() {
			v.SetString("spoilt")
		}
	}
}
