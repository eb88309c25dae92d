package tests

import (
	"slices"

	"loop.example/confluence/impl"
)

// The functions below do what the document says of a valid world, made without the
// functions of worlds; where an event is not possible, they give the world as it is
// and false.

// newWorldModel is a world in which nothing happened.
func newWorldModel(nodes int, sess int) impl.World {
	var w impl.World
	for me := 0; me < 3; me++ {
		empty := impl.Store{Vers: make([]impl.Ver, 4)}
		w.Places = append(w.Places, placeOf(me, chainFrom(empty, make([][]impl.Ver, nodes-1)...)))
	}
	for i := 0; i < sess; i++ {
		w.Sess = append(w.Sess, impl.Sess{Place: []int{0, 1, 2, 0}[i], Past: pastOf(make([]impl.Tag, 4)...)})
	}
	return w
}

func doModel(w impl.World, e impl.Event) (impl.World, bool) {
	out := copyOfWorld(w)
	ok := false
	switch e.Kind {
	case 1, 2, 3, 4, 5:
		ok = e.At >= 0 && e.At < len(w.Sess) && (w.Sess[e.At].Wait.Time > 0) == (e.Kind == 2) && clientModel(&out, e)
	case 6, 7, 8, 9:
		ok = e.At >= 0 && e.At < 3 && placeModel(&out.Places[e.At], e)
	case 10:
		ok = sendModel(&out, e)
	case 11, 12, 13:
		ok = e.At >= 0 && e.At < len(w.Net) && frameModel(&out, e)
	}
	if !ok {
		return w, false
	}
	return copyOfWorld(out), true
}

// noteModel appends records if there is room for all of them.
func noteModel(w *impl.World, list ...impl.Done) bool {
	if len(w.Hist)+len(list) > 80 {
		return false
	}
	w.Hist = append(w.Hist, list...)
	return true
}

// clientModel may change w also where it says false; doModel has a copy for it.
func clientModel(w *impl.World, e impl.Event) bool {
	s := &w.Sess[e.At]
	p := &w.Places[s.Place]
	switch e.Kind {
	case 1:
		var tag impl.Tag
		*p, tag = writeModel(*p, e.Key, e.Text, e.Gone, s.Past)
		s.Wait, s.Key = tag, e.Key
		return tag.Time > 0 && noteModel(w, impl.Done{Sess: e.At, Kind: 1, Key: e.Key, Tag: tag})
	case 2:
		return askModel(w, e.At)
	case 3:
		return readModel(w, e)
	case 4:
		stable := stableOf(*p)
		before := s.Past
		s.Past = stable
		var list []impl.Done
		for key, tag := range stable.Tags {
			list = append(list, impl.Done{Sess: e.At, Kind: 2, Key: key, Tag: tag})
		}
		return within(before, stable) && noteModel(w, list...)
	}
	s.Place = e.Num
	return e.Num >= 0 && e.Num < 3
}

func askModel(w *impl.World, sess int) bool {
	s := &w.Sess[sess]
	key, tag := s.Key, s.Wait
	s.Key, s.Wait = 0, impl.Tag{}
	c := w.Places[s.Place].Chain
	if impl.TagLess(c.Nodes[shownBy(c, 0)].Store.Vers[key].Tag, tag) {
		return impl.TagLess(c.Nodes[0].Store.Vers[key].Tag, tag)
	}
	if impl.TagLess(s.Past.Tags[key], tag) {
		s.Past.Tags[key] = tag
	}
	return noteModel(w, impl.Done{Sess: sess, Kind: 3, Key: key, Tag: tag})
}

func readModel(w *impl.World, e impl.Event) bool {
	s := &w.Sess[e.At]
	c := w.Places[s.Place].Chain
	if e.Num < 0 || e.Num >= len(c.Nodes) || e.Key < 0 || e.Key > 3 {
		return false
	}
	v := c.Nodes[shownBy(c, e.Num)].Store.Vers[e.Key]
	if impl.TagLess(v.Tag, s.Past.Tags[e.Key]) {
		return false
	}
	s.Past.Tags[e.Key] = v.Tag
	for k, t := range v.Past.Tags {
		if impl.TagLess(s.Past.Tags[k], t) {
			s.Past.Tags[k] = t
		}
	}
	return noteModel(w, impl.Done{Sess: e.At, Kind: 2, Key: e.Key, Tag: v.Tag})
}

func placeModel(p *impl.Place, e impl.Event) bool {
	ok := false
	switch e.Kind {
	case 6:
		*p, ok = passModel(*p, e.Num)
	case 7:
		*p, ok = fallModel(*p, e.Num)
	case 8:
		*p, ok = joinModel(*p)
	case 9:
		*p, ok = takeModel(*p, e.Num)
	}
	return ok
}

func sendModel(w *impl.World, e impl.Event) bool {
	if e.At < 0 || e.At > 2 || e.Num < 0 || e.Num > 2 || e.At == e.Num || len(w.Net) >= 12 {
		return false
	}
	log := w.Places[e.At].Log
	if e.Key < 0 || e.Key >= len(log) {
		return false
	}
	w.Net = append(w.Net, impl.Frame{From: e.At, To: e.Num, At: e.Key, Ver: log[e.Key]})
	return true
}

func frameModel(w *impl.World, e impl.Event) bool {
	f := w.Net[e.At]
	if e.Kind != 12 {
		w.Places[f.To], _ = hearModel(w.Places[f.To], f.From, f.At, f.Ver)
	}
	if e.Kind != 13 {
		w.Net = slices.Concat(w.Net[:e.At], w.Net[e.At+1:])
	}
	return true
}

func playModel(nodes int, sess int, list []impl.Event) impl.World {
	w := newWorldModel(nodes, sess)
	for i := 0; i < len(list) && i < 60; i++ {
		w, _ = doModel(w, list[i])
	}
	return w
}

// roundModel is a round of WorldCalm.
func roundModel(w impl.World) impl.World {
	do := func(e impl.Event) (ok bool) {
		w, ok = doModel(w, e)
		return ok
	}
	for i := len(w.Net); i > 0; i-- {
		do(impl.Event{Kind: 11})
	}
	for at := 0; at < 3; at++ {
		for node := 0; node < len(w.Places[at].Chain.Nodes); node++ {
			for do(impl.Event{Kind: 6, At: at, Num: node}) {
			}
		}
	}
	for d := 0; d < 3; d++ {
		for e := 0; e < 3; e++ {
			if d != e {
				do(impl.Event{Kind: 9, At: d, Num: e})
				do(impl.Event{Kind: 10, At: e, Num: d, Key: len(w.Places[d].Got[e])})
			}
		}
	}
	return w
}
