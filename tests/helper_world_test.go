package tests

import (
	"fmt"
	"math"
	"math/rand"
	"reflect"
	"slices"
	"testing"

	"loop.example/confluence/impl"
)

func sameWorld(a impl.World, b impl.World) bool {
	sameSess := func(s impl.Sess, o impl.Sess) bool {
		return s.Place == o.Place && samePast(s.Past, o.Past) && s.Wait == o.Wait && s.Key == o.Key
	}
	return slices.EqualFunc(a.Places, b.Places, samePlace) && slices.EqualFunc(a.Sess, b.Sess, sameSess) && slices.EqualFunc(a.Net, b.Net, sameFrame) && slices.Equal(a.Hist, b.Hist)
}

func sameFrame(a impl.Frame, b impl.Frame) bool {
	return a.From == b.From && a.To == b.To && a.At == b.At && sameVer(a.Ver, b.Ver)
}

func copyOfWorld(w impl.World) impl.World {
	out := impl.World{Hist: slices.Clone(w.Hist)}
	for _, p := range w.Places {
		out.Places = append(out.Places, copyOfPlace(p))
	}
	for _, s := range w.Sess {
		s.Past.Tags = slices.Clone(s.Past.Tags)
		out.Sess = append(out.Sess, s)
	}
	for _, f := range w.Net {
		f.Ver = copyOfVers([]impl.Ver{f.Ver})[0]
		out.Net = append(out.Net, f)
	}
	return out
}

// someKind is a kind of event; those are frequent by which a write comes about.
func someKind(r *rand.Rand) int {
	kinds := []int{1, 1, 1, 2, 2, 2, 2, 3, 3, 3, 4, 5, 6, 6, 6, 6, 6, 6, 6, 6, 7, 8, 9, 9, 9, 10, 10, 10, 11, 11, 11, 12, 13}
	return kinds[r.Intn(len(kinds))]
}

// someEvent is an event that is often possible.
func someEvent(r *rand.Rand, w impl.World) impl.Event {
	e := impl.Event{Kind: someKind(r), At: r.Intn(4), Num: r.Intn(3), Key: r.Intn(4)}
	switch e.Kind {
	case impl.EventWrite:
		e.Text = []string{"", "a", "!", "12345678"}[r.Intn(4)]
		e.Gone = e.Text == "" && r.Intn(2) == 0
	case impl.EventSend:
		e.At = r.Intn(3)
		e.Num = (e.At + 1 + r.Intn(2)) % 3
		if r.Intn(4) > 0 {
			e.Key = len(w.Places[e.Num].Got[e.At])
		}
	case impl.EventHear, impl.EventLose, impl.EventKeep:
		e.At = r.Intn(len(w.Net) + 1)
	}
	return e
}

// someEvents is events that are chosen along the way, by the model.
func someEvents(r *rand.Rand, nodes int, sess int, n int) []impl.Event {
	var list []impl.Event
	w := newWorldModel(nodes, sess)
	for i := 0; i < n; i++ {
		list = append(list, someEvent(r, w))
		w, _ = doModel(w, list[i])
	}
	return list
}

// steppedWorld is a world behind that many events, by the model.
func steppedWorld(seed int64, nodes int, sess int, steps int) impl.World {
	r := rand.New(rand.NewSource(seed))
	w := newWorldModel(nodes, sess)
	for i := 0; i < steps; i++ {
		w, _ = doModel(w, someEvent(r, w))
	}
	return w
}

// storyWorld is a world with all parts: two stable writes of data centre 0, one of
// which data centre 1 has, a tombstone that is shown at data centre 1, a write that
// only the head of data centre 2 has, frames, and clients that wait and that do not.
func storyWorld() impl.World {
	w := newWorldModel(3, 4)
	for _, e := range []impl.Event{
		{Kind: 1, At: 0, Key: 1, Text: "a"}, {Kind: 6, At: 0}, {Kind: 6, At: 0, Num: 1}, {Kind: 2, At: 0},
		{Kind: 1, At: 0, Key: 2, Text: "b"}, {Kind: 6, At: 0}, {Kind: 6, At: 0, Num: 1}, {Kind: 2, At: 0},
		{Kind: 10, At: 0, Num: 1}, {Kind: 10, At: 0, Num: 2}, {Kind: 10, At: 0, Num: 1, Key: 1}, {Kind: 13, At: 0}, {Kind: 9, At: 1},
		{Kind: 1, At: 1, Key: 3, Gone: true}, {Kind: 6, At: 1}, {Kind: 6, At: 1},
		{Kind: 1, At: 2, Key: 0, Text: "head"}, {Kind: 4, At: 3}, {Kind: 3, At: 3, Key: 0},
	} {
		var ok bool
		if w, ok = doModel(w, e); !ok {
			panic(fmt.Sprint("the story stops at ", e))
		}
	}
	return w
}

// worldList has valid worlds with all edges that the document names.
func worldList() []impl.World {
	list := append(edgeWorlds(), storyWorld())
	for nodes := 1; nodes <= 4; nodes++ {
		for _, sess := range []int{0, 1, 4} {
			list = append(list, newWorldModel(nodes, sess))
		}
		for i := int64(0); i < 6; i++ {
			list = append(list, steppedWorld(i, nodes, 4, 20+int(i)*25))
		}
	}
	return list
}

// edgeWorlds differ from the story in one thing, and are valid.
func edgeWorlds() []impl.World {
	var list []impl.World
	change := func(f func(w *impl.World)) {
		w := storyWorld()
		f(&w)
		list = append(list, w)
	}
	for _, n := range []int{75, 76, 77, 79, 80} {
		change(func(w *impl.World) { w.Hist = append(w.Hist, readsOfNothing(3, n-len(w.Hist))...) })
	}
	for _, n := range []int{11, 12} {
		change(func(w *impl.World) {
			for len(w.Net) < n {
				w.Net = append(w.Net, w.Net[len(w.Net)%3])
			}
		})
	}
	waits := []impl.Tag{tagAt(1, 0), tagAt(2, 0), tagAt(3, 0), tagAt(999, 0)}
	for key := 0; key < 4; key++ {
		change(func(w *impl.World) {
			w.Sess[0].Wait, w.Sess[0].Key = waits[key], key
			w.Sess[3].Wait, w.Sess[3].Key = tagAt(1, 0), key
		})
		change(func(w *impl.World) {
			w.Sess[0].Past.Tags[key] = tagAt(999, 2)
			w.Sess[1].Past.Tags[key] = tagAt(2, 2)
		})
	}
	change(func(w *impl.World) { w.Sess = nil })
	change(func(w *impl.World) { w.Sess, w.Net, w.Hist = []impl.Sess{}, []impl.Frame{}, []impl.Done{} })
	change(func(w *impl.World) { w.Hist = []impl.Done{wrote(3, 3, tagAt(999, 2)), sure(0, 0, tagAt(1, 1))} })
	change(func(w *impl.World) { w.Places[0].Clock, w.Places[1].Fell = 999, true })
	change(func(w *impl.World) {
		w.Places[2].Log = logOfLength(2, 36, 100)
		w.Places[0].Got[2] = logOfLength(2, 20, 100)
		w.Net = append(w.Net, impl.Frame{From: 2, To: 0, At: 20, Ver: w.Places[2].Log[20]}, impl.Frame{From: 2, To: 1, At: 35, Ver: w.Places[2].Log[35]})
	})
	change(func(w *impl.World) {
		w.Places[2].Chain = chainFrom(impl.StoreNew(), sixWaiting(1), sixWaiting(7), sixWaiting(13))
		w.Places[2].Clock = 20
	})
	return list
}

// badWorlds is invalid worlds by what is wrong with them.
func badWorlds() map[string]impl.World {
	list := map[string]impl.World{"zero": {}}
	change := func(name string, f func(w *impl.World)) {
		w := storyWorld()
		f(&w)
		list[name] = w
	}
	change("no places", func(w *impl.World) { w.Places = nil })
	change("two places", func(w *impl.World) { w.Places, w.Net, w.Sess = w.Places[:2], nil, nil })
	list["four places"] = impl.World{Places: []impl.Place{impl.PlaceNew(0, 1), impl.PlaceNew(1, 1), impl.PlaceNew(2, 1), impl.PlaceNew(2, 1)}}
	list["a wrong order"] = impl.World{Places: []impl.Place{impl.PlaceNew(0, 1), impl.PlaceNew(2, 1), impl.PlaceNew(1, 1)}}
	list["one place twice"] = impl.World{Places: []impl.Place{impl.PlaceNew(0, 1), impl.PlaceNew(1, 1), impl.PlaceNew(1, 1)}}
	for name, p := range badPlaces() {
		w := newWorldModel(1, 2)
		w.Places[max(0, min(p.Me, 2))] = p
		list["place "+name] = w
	}
	for name, hist := range badHists() {
		change("hist "+name, func(w *impl.World) { w.Hist = hist })
	}
	addBadClients(change)
	addBadFrames(change)
	addBadPrefixes(change)
	return list
}

// changer adds a world that differs from the story in what f does.
type changer func(name string, f func(w *impl.World))

func addBadClients(change changer) {
	change("five clients", func(w *impl.World) { w.Sess = append(w.Sess, w.Sess[3]) })
	for _, n := range []int{math.MinInt, -1, 3, math.MaxInt} {
		change(fmt.Sprint("client at ", n), func(w *impl.World) { w.Sess[3].Place = n })
		change(fmt.Sprint("client that waits at ", n), func(w *impl.World) { w.Sess[1].Place, w.Sess[1].Wait.Place = n, n })
	}
	for _, n := range []int{math.MinInt, -1, 4, math.MaxInt} {
		change(fmt.Sprint("waiting for key ", n), func(w *impl.World) { w.Sess[1].Key = n })
	}
	for _, n := range []int{math.MinInt, -1, 1, 3, 4, math.MaxInt} {
		change(fmt.Sprint("key without waiting ", n), func(w *impl.World) { w.Sess[0].Key = n })
	}
	for i, p := range badPasts() {
		change(fmt.Sprint("client with past ", i), func(w *impl.World) { w.Sess[3].Past = p })
		change(fmt.Sprint("client that waits with past ", i), func(w *impl.World) { w.Sess[1].Past = p })
	}
	for _, tag := range []impl.Tag{tagAt(0, 1), tagAt(1, 0), tagAt(1, 2), tagAt(1, 3), tagAt(1, -1), tagAt(-1, 1), tagAt(1000, 1)} {
		change(fmt.Sprint("waiting for ", tag), func(w *impl.World) { w.Sess[1].Wait = tag })
	}
}

func addBadFrames(change changer) {
	change("13 frames", func(w *impl.World) {
		for len(w.Net) < 13 {
			w.Net = append(w.Net, w.Net[0])
		}
	})
	for i := 0; i < 3; i++ {
		frame := func(name string, f func(f *impl.Frame)) {
			change(fmt.Sprint("frame ", i, " ", name), func(w *impl.World) { f(&w.Net[i]) })
		}
		for _, n := range []int{math.MinInt, -1, 3, math.MaxInt} {
			frame(fmt.Sprint("from ", n), func(f *impl.Frame) { f.From = n })
			frame(fmt.Sprint("to ", n), func(f *impl.Frame) { f.To = n })
			frame(fmt.Sprint("at ", n), func(f *impl.Frame) { f.At = n })
		}
		frame("to itself", func(f *impl.Frame) { f.To = f.From })
		frame("from another", func(f *impl.Frame) { f.From = 3 - f.To })
		frame("at the end", func(f *impl.Frame) { f.At = 2 })
		frame("at the other element", func(f *impl.Frame) { f.At = 1 - f.At })
		frame("zero", func(f *impl.Frame) { *f = impl.Frame{} })
		frame("of the zero Ver", func(f *impl.Frame) { f.Ver = impl.Ver{} })
		frame("of another key", func(f *impl.Frame) { f.Ver.Key = 3 })
		frame("of another time", func(f *impl.Frame) { f.Ver.Tag.Time++ })
		frame("of another past", func(f *impl.Frame) { f.Ver.Past.Tags[3] = tagAt(1, 2) })
		frame("of no past", func(f *impl.Frame) { f.Ver.Past.Tags = nil })
		frame("of another text", func(f *impl.Frame) { f.Ver.Text = "other" })
		frame("of a tombstone", func(f *impl.Frame) { f.Ver.Text, f.Ver.Gone = "", true })
	}
}

func addBadPrefixes(change changer) {
	change("got more than the log", func(w *impl.World) {
		w.Places[1].Got[0] = append(copyOfVers(w.Places[0].Log), value(0, tagAt(9, 0), "more"))
	})
	change("got of an empty log", func(w *impl.World) { w.Places[2].Got[1] = logOfLength(1, 1, 1) })
	change("got in another order", func(w *impl.World) {
		log := copyOfVers(w.Places[0].Log)
		w.Places[1].Got[0] = []impl.Ver{log[1], log[0]}
	})
	change("got without the first", func(w *impl.World) { w.Places[2].Got[0] = copyOfVers(w.Places[0].Log[1:]) })
	for i := 0; i < 2; i++ {
		change(fmt.Sprint("got another text at ", i), func(w *impl.World) {
			w.Places[2].Got[0] = copyOfVers(w.Places[0].Log)
			w.Places[2].Got[0][i].Text = "other"
		})
		change(fmt.Sprint("got another key at ", i), func(w *impl.World) {
			w.Places[1].Got[0] = copyOfVers(w.Places[0].Log)
			w.Places[1].Got[0][i].Key = 0
		})
	}
}

// extremes is numbers around those that may exist.
func extremes() []int {
	return []int{math.MinInt, -1, 0, 1, 2, 3, 4, 5, 11, 12, 13, math.MaxInt}
}

// eventsFor is events of every kind for a world, possible and not.
func eventsFor(w impl.World) []impl.Event {
	list := []impl.Event{{}, {Kind: -1}, {Kind: 14}, {Kind: math.MaxInt}, {Kind: math.MinInt}}
	add := func(kind int, at int, num int, key int) {
		list = append(list, impl.Event{Kind: kind, At: at, Num: num, Key: key})
	}
	for at := -1; at <= len(w.Sess); at++ {
		for key := -1; key <= 4; key++ {
			list = append(list, impl.Event{Kind: 1, At: at, Num: 9, Key: key, Text: "a"}, impl.Event{Kind: 1, At: at, Key: key, Gone: true})
			for num := -1; num <= 4; num++ {
				add(3, at, num, key)
			}
		}
		list = append(list, impl.Event{Kind: 1, At: at, Text: "a", Gone: true}, impl.Event{Kind: 1, At: at, Text: " "}, impl.Event{Kind: 1, At: at, Text: "123456789"})
		add(2, at, 9, 9)
		add(4, at, 9, 9)
		for num := -1; num <= 3; num++ {
			add(5, at, num, 9)
		}
	}
	for at := -1; at <= 3; at++ {
		add(8, at, 9, 9)
		for num := -1; num <= 4; num++ {
			add(6, at, num, 9)
			add(7, at, num, 9)
			add(9, at, num, 9)
			for _, key := range []int{-1, 0, 1, 2, 20, 35, 36} {
				add(10, at, num, key)
			}
		}
	}
	for at := -1; at <= len(w.Net); at++ {
		add(11, at, 9, 9)
		add(12, at, 9, 9)
		add(13, at, 9, 9)
	}
	return list
}

func mustBeValidWorld(t *testing.T, w impl.World) {
	t.Helper()
	if !impl.WorldOk(w) {
		t.Errorf("world is invalid: %v", w)
	}
}

// mustBeZeroWorld is the result that functions have for an invalid world.
func mustBeZeroWorld(t *testing.T, name string, w impl.World, ok bool) {
	t.Helper()
	if ok || !reflect.DeepEqual(w, impl.World{}) {
		t.Errorf("%s: %v, %v is not the zero World and false", name, w, ok)
	}
}
