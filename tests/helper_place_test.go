package tests

import (
	"fmt"
	"math"
	"math/rand"
	"reflect"
	"testing"

	"loop.example/confluence/impl"
)

func samePlace(a impl.Place, b impl.Place) bool {
	if a.Me != b.Me || a.Clock != b.Clock || a.Fell != b.Fell || len(a.Got) != len(b.Got) {
		return false
	}
	for i, log := range a.Got {
		if !sameVers(log, b.Got[i]) {
			return false
		}
	}
	return sameChain(a.Chain, b.Chain) && sameVers(a.Log, b.Log)
}

func copyOfPlace(p impl.Place) impl.Place {
	out := impl.Place{Me: p.Me, Clock: p.Clock, Chain: copyOfChain(p.Chain), Log: copyOfVers(p.Log), Fell: p.Fell}
	for _, log := range p.Got {
		out.Got = append(out.Got, copyOfVers(log))
	}
	return out
}

func headOf(p impl.Place) impl.Node {
	return p.Chain.Nodes[0]
}

func tailOf(p impl.Place) impl.Node {
	return p.Chain.Nodes[len(p.Chain.Nodes)-1]
}

// stableOf is the tags of the tail, made without the program.
func stableOf(p impl.Place) impl.Past {
	var tags impl.Past
	for _, v := range tailOf(p).Store.Vers {
		tags.Tags = append(tags.Tags, v.Tag)
	}
	return tags
}

func waitingAt(p impl.Place) int {
	sum := 0
	for _, n := range p.Chain.Nodes {
		sum += len(n.Wait)
	}
	return sum
}

// latestTime is the greatest Time at the head.
func latestTime(p impl.Place) int {
	time := 0
	for _, v := range headOf(p).Store.Vers {
		time = max(time, v.Tag.Time)
	}
	return time
}

// placeOf is a data centre with that chain that has told and heard nothing.
func placeOf(me int, c impl.Chain) impl.Place {
	p := impl.Place{Me: me, Chain: c, Got: make([][]impl.Ver, 3)}
	p.Clock = latestTime(p)
	return p
}

// logOfLength is a log of versions of a place from that time on.
func logOfLength(place int, n int, time int) []impl.Ver {
	var log []impl.Ver
	for i := 0; i < n; i++ {
		v := value(i%4, tagAt(time+i, place), "t")
		if i%5 == 4 {
			v = tombstone(i%4, tagAt(time+i, place))
		}
		log = append(log, v)
	}
	return log
}

// causedBy is a version whose Past is some of the tags that are earlier than it.
func causedBy(r *rand.Rand, v impl.Ver, tags impl.Past) impl.Ver {
	v.Past = pastOf(make([]impl.Tag, 4)...)
	for k, t := range tags.Tags {
		if t.Time < v.Tag.Time && r.Intn(2) == 0 {
			v.Past.Tags[k] = t
		}
	}
	return v
}

// someCausedChain is a chain whose versions depend on stable ones only.
func someCausedChain(r *rand.Rand) impl.Chain {
	c := chainFrom(someClosedStore(r))
	stable := stableOf(impl.Place{Chain: c})
	var waits [][]impl.Ver
	for i := r.Intn(4); i > 0; i-- {
		wait := someWait(r, c.Nodes[0].Store.Vers, 6)
		for j, v := range wait {
			wait[j] = causedBy(r, v, stable)
		}
		waits = append(waits, wait)
		c = chainFrom(c.Nodes[len(c.Nodes)-1].Store, waits...)
	}
	return c
}

// someLog is versions of a place, with tags that may also be in the chain.
func someLog(r *rand.Rand, place int, stable impl.Past) []impl.Ver {
	var log []impl.Ver
	for _, i := range r.Perm(12)[:r.Intn(6)] {
		v := someVer(r, r.Intn(4))
		v.Tag = tagAt(1+i, place)
		v.Past = somePast(r, i)
		if r.Intn(3) > 0 {
			v = causedBy(r, v, stable)
		}
		log = append(log, v)
	}
	return log
}

// somePlace is a valid data centre, made without the program.
func somePlace(r *rand.Rand) impl.Place {
	p := placeOf(r.Intn(3), someCausedChain(r))
	p.Clock += r.Intn(3)
	p.Fell = r.Intn(2) == 0
	stable := stableOf(p)
	p.Log = someLog(r, p.Me, stable)
	for i := range p.Got {
		if i != p.Me {
			p.Got[i] = someLog(r, i, stable)
		}
	}
	return p
}

// placeList has valid data centres with all edges that the document names.
func placeList() []impl.Place {
	r := rand.New(rand.NewSource(19))
	list := append(newPlaces(), edgePlaces()...)
	for i := 0; i < 150; i++ {
		list = append(list, somePlace(r))
	}
	return list
}

// newPlaces is data centres in which nothing happened; the last ones have empty slices.
func newPlaces() []impl.Place {
	var list []impl.Place
	for me := 0; me < 3; me++ {
		for n := 0; n < 4; n++ {
			list = append(list, placeOf(me, chainFrom(impl.Store{Vers: make([]impl.Ver, 4)}, make([][]impl.Ver, n)...)))
		}
		p := copyOfPlace(list[len(list)-1])
		p.Log = []impl.Ver{}
		p.Got = [][]impl.Ver{{}, {}, {}}
		list = append(list, p)
	}
	return list
}

// sameTagTail has one tag of place 0 at two keys, and a tombstone.
func sameTagTail() impl.Store {
	return impl.Store{Vers: []impl.Ver{value(0, tagAt(3, 0), "a"), value(1, tagAt(2, 1), "b"), value(2, tagAt(3, 0), "c"), tombstone(3, tagAt(1, 0))}}
}

func edgePlaces() []impl.Place {
	var list []impl.Place
	change := func(c impl.Chain, f func(p *impl.Place)) {
		p := placeOf(0, copyOfChain(c))
		f(&p)
		list = append(list, p)
		p = copyOfPlace(p)
		p.Fell = true
		list = append(list, p)
	}
	empty := impl.Store{Vers: make([]impl.Ver, 4)}
	chains := []impl.Chain{
		chainFrom(empty, nil),
		chainFrom(sameTagTail()),
		chainFrom(sameTagTail(), nil, nil, nil),
		chainFrom(empty, sixWaiting(1)),
		chainFrom(empty, nil, sixWaiting(1)),
		chainFrom(empty, sixWaiting(1), sixWaiting(7), sixWaiting(13)),
		chainFrom(empty, []impl.Ver{tombstone(1, tagAt(1, 0))}),
		chainFrom(empty, equalTags()),
		chainFrom(sameTagTail(), []impl.Ver{value(0, tagAt(4, 0), "d")}),
	}
	for _, c := range chains {
		change(c, func(p *impl.Place) {})
		change(c, func(p *impl.Place) { p.Clock = 998 })
		change(c, func(p *impl.Place) { p.Clock = 999 })
		change(c, func(p *impl.Place) { p.Log = logOfLength(0, 35, 100) })
		change(c, func(p *impl.Place) { p.Log = logOfLength(0, 36, 100) })
		change(c, func(p *impl.Place) { p.Log = logOfLength(0, 60, 1) })
		change(c, func(p *impl.Place) { p.Log = []impl.Ver{value(1, tagAt(3, 0), "told"), value(1, tagAt(1, 0), "told")} })
		change(c, func(p *impl.Place) { p.Got[1], p.Got[2] = logOfLength(1, 60, 1), logOfLength(2, 59, 940) })
		change(c, func(p *impl.Place) { p.Got[2] = []impl.Ver{value(0, tagAt(999, 2), "last")} })
	}
	return list
}

// goodPlace is the data centre that others differ from in one thing. Its tail has
// tags of key 0 and 2, and the first of the two versions that wait at the head is
// at no node any more.
func goodPlace() impl.Place {
	tail := impl.Store{Vers: []impl.Ver{value(0, tagAt(2, 1), "a"), {}, tombstone(2, tagAt(3, 1)), {}}}
	needs := func(v impl.Ver) impl.Ver {
		v.Past = pastOf(tagAt(2, 1), impl.Tag{}, tagAt(3, 1), impl.Tag{})
		return v
	}
	c := chainFrom(tail, []impl.Ver{needs(value(1, tagAt(4, 0), "b"))}, []impl.Ver{needs(value(3, tagAt(5, 1), "c")), needs(value(3, tagAt(6, 2), "d"))})
	p := placeOf(1, c)
	p.Log = []impl.Ver{tombstone(2, tagAt(3, 1)), value(0, tagAt(2, 1), "a"), value(0, tagAt(1, 1), "z")}
	p.Got[0] = []impl.Ver{needs(value(1, tagAt(4, 0), "b")), value(1, tagAt(7, 0), "e")}
	p.Got[2] = []impl.Ver{needs(value(3, tagAt(6, 2), "d")), tombstone(0, tagAt(1, 2))}
	return p
}

// badPlaces is invalid data centres by what is wrong with them.
func badPlaces() map[string]impl.Place {
	list := map[string]impl.Place{"zero": {}}
	for name, c := range badChains() {
		list["chain "+name] = impl.Place{Clock: 999, Chain: c, Got: make([][]impl.Ver, 3)}
	}
	for _, me := range []int{math.MinInt, -1, 3, 4, math.MaxInt} {
		p := placeOf(0, chainFrom(impl.StoreNew(), nil))
		p.Me = me
		list[fmt.Sprint("me ", me)] = p
	}
	for _, clock := range []int{math.MinInt, -1, 1000, math.MaxInt} {
		p := placeOf(0, chainFrom(impl.StoreNew(), nil))
		p.Clock = clock
		list[fmt.Sprint("clock ", clock)] = p
		p = goodPlace()
		p.Clock = clock
		list[fmt.Sprint("clock of the good one ", clock)] = p
	}
	addOpenPasts(list)
	addBadLogs(list)
	addBadGots(list)
	return list
}

// addOpenPasts adds data centres with a version that is too late or depends on what
// is not stable.
func addOpenPasts(list map[string]impl.Place) {
	for k := 0; k < 4; k++ {
		for name, over := range map[string]impl.Tag{"time": tagAt(8, 0), "place": tagAt(8, 2)} {
			past := pastOf(make([]impl.Tag, 4)...)
			past.Tags[k] = over
			v := impl.Ver{Key: 1, Tag: tagAt(9, 0), Past: past, Text: "x"}
			then := value(1, tagAt(9, 1), "y")
			tail := impl.Store{Vers: []impl.Ver{value(0, tagAt(8, 1), "a"), value(1, tagAt(8, 1), "a"), value(2, tagAt(8, 1), "a"), value(3, tagAt(8, 1), "a")}}
			if name == "time" {
				tail.Vers[k] = impl.Ver{}
			}
			at := fmt.Sprint(" depends on an unstable ", name, " of key ", k)
			list["stored"+at] = placeOf(0, chainFrom(impl.StoreAdd(tail, v)))
			if k == 1 {
				list["stored"+at] = placeOf(0, chainFrom(impl.StoreAdd(tail, impl.Ver{Key: 0, Tag: v.Tag, Past: past, Text: "x"})))
			}
			list["at the head"+at] = placeOf(0, chainFrom(tail, nil, []impl.Ver{v}))
			list["between"+at] = placeOf(0, chainFrom(tail, []impl.Ver{v}, []impl.Ver{then}))
			list["waiting at the head only"+at] = placeOf(0, chainFrom(tail, []impl.Ver{v, then}))
			list["waiting between only"+at] = placeOf(0, chainFrom(tail, []impl.Ver{v, then}, nil))
		}
	}
	onHead := placeOf(0, chainFrom(impl.StoreNew(), []impl.Ver{value(0, tagAt(1, 0), "a"), {Key: 1, Tag: tagAt(2, 0), Past: pastOf(tagAt(1, 0), impl.Tag{}, impl.Tag{}, impl.Tag{})}}))
	list["depends on what the head alone has"] = onHead
	for k := 0; k < 4; k++ {
		p := placeOf(0, chainFrom(impl.StoreNew(), nil, []impl.Ver{value(k, tagAt(7, 0), "late")}))
		p.Clock = 6
		list[fmt.Sprint("clock less than the time of key ", k, " at the head")] = p
	}
}

// addLogFaults adds a data centre for each fault of a log of that place.
func addLogFaults(list map[string]impl.Place, name string, place int, with func(log []impl.Ver) impl.Place) {
	good := logOfLength(place, 5, 10)
	fault := func(what string, log []impl.Ver) {
		list[name+what] = with(log)
	}
	fault("61 versions", logOfLength(place, 61, 10))
	fault("the zero Ver", append(copyOfVers(good), impl.Ver{}))
	fault("the zero Ver alone", []impl.Ver{{}})
	for i := range good {
		for j := range good[:i] {
			log := copyOfVers(good)
			log[i].Tag = log[j].Tag
			fault(fmt.Sprint("tag of ", j, " again at ", i), log)
			log = copyOfVers(good)
			log[i] = log[j]
			fault(fmt.Sprint("version of ", j, " again at ", i), log)
		}
		log := copyOfVers(good)
		log[i].Tag.Place = (place + 1) % 3
		fault(fmt.Sprint("place after at ", i), log)
		log = copyOfVers(good)
		log[i].Tag.Place = (place + 2) % 3
		fault(fmt.Sprint("place before at ", i), log)
	}
	for what, v := range badVers() {
		if v.Tag.Place == 1 {
			v.Tag.Place = place
		}
		fault(what+" first", append([]impl.Ver{v}, good...))
		fault(what+" last", append(copyOfVers(good), v))
	}
}

func addBadLogs(list map[string]impl.Place) {
	for me := 0; me < 3; me++ {
		addLogFaults(list, fmt.Sprint("log of ", me, ": "), me, func(log []impl.Ver) impl.Place {
			p := placeOf(me, chainFrom(impl.StoreNew(), nil))
			p.Log = log
			return p
		})
	}
}

func addBadGots(list map[string]impl.Place) {
	for me := 0; me < 3; me++ {
		for from := 0; from < 3; from++ {
			if from == me {
				continue
			}
			addLogFaults(list, fmt.Sprint(me, " got of ", from, ": "), from, func(log []impl.Ver) impl.Place {
				p := placeOf(me, chainFrom(impl.StoreNew(), nil))
				p.Got[from] = log
				return p
			})
		}
		p := placeOf(me, chainFrom(impl.StoreNew(), nil))
		p.Got[me] = logOfLength(me, 1, 1)
		list[fmt.Sprint(me, " got of itself")] = p
	}
	for name, got := range map[string][][]impl.Ver{"nil": nil, "no lists": {}, "two lists": {nil, nil}, "four lists": {nil, nil, nil, nil}} {
		p := placeOf(0, chainFrom(impl.StoreNew(), nil))
		p.Got = got
		list["got "+name] = p
		p = placeOf(2, chainFrom(impl.StoreNew(), nil))
		p.Got = got
		list["got of 2 "+name] = p
	}
	p := goodPlace()
	p.Got[0], p.Got[2] = p.Got[2], p.Got[0]
	list["got in a wrong order"] = p
}

func mustBeValidPlace(t *testing.T, p impl.Place) {
	t.Helper()
	if !impl.PlaceOk(p) {
		t.Errorf("data centre is invalid: %v", p)
	}
}

// mustBeZeroPlace is the result that each function has for an invalid data centre.
func mustBeZeroPlace(t *testing.T, name string, p impl.Place, ok bool) {
	t.Helper()
	if ok || !reflect.DeepEqual(p, impl.Place{}) {
		t.Errorf("%s: %v, %v is not the zero Place and false", name, p, ok)
	}
}
