package tests

import (
	"fmt"
	"math"
	"math/rand"
	"testing"

	"loop.example/confluence/impl"
)

func sameVers(a []impl.Ver, b []impl.Ver) bool {
	return sameStore(impl.Store{Vers: a}, impl.Store{Vers: b})
}

func sameNode(a impl.Node, b impl.Node) bool {
	return sameStore(a.Store, b.Store) && sameVers(a.Wait, b.Wait)
}

func sameChain(a impl.Chain, b impl.Chain) bool {
	if len(a.Nodes) != len(b.Nodes) {
		return false
	}
	for i, n := range a.Nodes {
		if !sameNode(n, b.Nodes[i]) {
			return false
		}
	}
	return true
}

func tombstone(key int, tag impl.Tag) impl.Ver {
	return impl.Ver{Key: key, Tag: tag, Past: impl.PastNone(), Gone: true}
}

// The copies below have memory of their own, and spare capacity nowhere.

func copyOfVers(list []impl.Ver) []impl.Ver {
	out := make([]impl.Ver, len(list))
	for i, v := range list {
		v.Past.Tags = append(make([]impl.Tag, 0, len(v.Past.Tags)), v.Past.Tags...)
		out[i] = v
	}
	return out
}

func copyOfChain(c impl.Chain) impl.Chain {
	out := impl.Chain{Nodes: make([]impl.Node, len(c.Nodes))}
	for i, n := range c.Nodes {
		out.Nodes[i] = impl.Node{Store: impl.Store{Vers: copyOfVers(n.Store.Vers)}, Wait: copyOfVers(n.Wait)}
	}
	return out
}

// chainFrom is a chain with that tail, made without the program. The waits are those
// of the other nodes, the one before the tail first.
func chainFrom(tail impl.Store, waits ...[]impl.Ver) impl.Chain {
	nodes := []impl.Node{{Store: tail}}
	for _, wait := range waits {
		vers := copyOfVers(nodes[0].Store.Vers)
		for _, v := range copyOfVers(wait) {
			vers[v.Key] = v
		}
		nodes = append([]impl.Node{{Store: impl.Store{Vers: vers}, Wait: copyOfVers(wait)}}, nodes...)
	}
	return copyOfChain(impl.Chain{Nodes: nodes})
}

// someLaterVer is a version with a tag that is a little greater than that one.
func someLaterVer(r *rand.Rand, key int, than impl.Tag) impl.Ver {
	v := someVer(r, key)
	v.Tag = tagAt(than.Time+1+r.Intn(2), r.Intn(impl.PlaceMax))
	if than.Time > 0 && than.Place < impl.PlaceMax-1 && r.Intn(3) == 0 {
		v.Tag = tagAt(than.Time, than.Place+1)
	}
	v.Past = somePast(r, v.Tag.Time-1)
	return v
}

// someWait is waiting versions that are later than those of vers, and keeps to the order.
func someWait(r *rand.Rand, vers []impl.Ver, most int) []impl.Ver {
	var wait []impl.Ver
	latest := copyOfVers(vers)
	for i := r.Intn(most + 1); i > 0; i-- {
		key := r.Intn(impl.KeyMax)
		latest[key] = someLaterVer(r, key, latest[key].Tag)
		wait = append(wait, latest[key])
	}
	return wait
}

// someChain is a valid chain, made without the program.
func someChain(r *rand.Rand) impl.Chain {
	c := chainFrom(someStore(r))
	var waits [][]impl.Ver
	for i := r.Intn(impl.NodeMax); i > 0; i-- {
		waits = append(waits, someWait(r, c.Nodes[0].Store.Vers, impl.WaitMax))
		c = chainFrom(c.Nodes[len(c.Nodes)-1].Store, waits...)
	}
	return c
}

// sixWaiting is versions of two keys in turn, WaitMax of them, from that time on.
func sixWaiting(time int) []impl.Ver {
	var wait []impl.Ver
	for i := 0; i < 6; i++ {
		wait = append(wait, value(i%2, tagAt(time+i, 0), "w"))
	}
	return wait
}

// chainList has valid chains with all edges that the document names.
func chainList() []impl.Chain {
	r := rand.New(rand.NewSource(12))
	empty := impl.Store{Vers: make([]impl.Ver, 4)}
	full := impl.Store{Vers: []impl.Ver{value(0, tagAt(2, 1), "a"), tombstone(1, tagAt(2, 1)), value(2, tagAt(2, 1), ""), value(3, tagAt(1, 0), "12345678")}}
	list := []impl.Chain{
		chainFrom(empty),
		chainFrom(full),
		chainFrom(empty, nil),
		chainFrom(full, nil, nil, nil),
		chainFrom(empty, sixWaiting(1)),
		chainFrom(empty, nil, sixWaiting(1)),
		chainFrom(empty, sixWaiting(1), nil),
		chainFrom(empty, sixWaiting(1), sixWaiting(7)),
		chainFrom(empty, sixWaiting(1), sixWaiting(7), sixWaiting(13)),
		chainFrom(empty, sixWaiting(1), []impl.Ver{value(3, tagAt(1, 0), "x")}),
		chainFrom(full, []impl.Ver{tombstone(0, tagAt(2, 2))}, []impl.Ver{value(1, tagAt(2, 2), "b"), value(3, tagAt(2, 2), "c")}),
		chainFrom(empty, nil, equalTags(), equalTagsLater()),
		chainFrom(empty, equalTags(), nil, equalTagsLater()),
	}
	for i := 0; i < 120; i++ {
		list = append(list, someChain(r))
	}
	return list
}

// equalTags is a version of each key, with two tags that are those of two keys each.
func equalTags() []impl.Ver {
	return []impl.Ver{value(0, tagAt(3, 0), "a"), value(1, tagAt(2, 1), "b"), tombstone(2, tagAt(3, 0)), value(3, tagAt(2, 1), "d")}
}

func equalTagsLater() []impl.Ver {
	return []impl.Ver{value(3, tagAt(4, 0), "e"), value(0, tagAt(4, 0), "f")}
}

// badChains is invalid chains by what is wrong with them. The chain that they are
// made from has waiting versions of one key and of two, and a tombstone.
func badChains() map[string]impl.Chain {
	list := map[string]impl.Chain{"nil": {}, "empty": {Nodes: []impl.Node{}}}
	list["five nodes"] = chainFrom(impl.StoreNew(), nil, nil, nil, nil)
	list["seven wait"] = chainFrom(impl.StoreNew(), append(sixWaiting(1), value(3, tagAt(9, 0), "x")))
	list["seven wait at the head"] = chainFrom(impl.StoreNew(), nil, append(sixWaiting(1), value(3, tagAt(9, 0), "x")))
	alone := chainFrom(impl.StoreNew())
	alone.Nodes[0].Wait = []impl.Ver{value(0, tagAt(1, 0), "a")}
	list["waiting at the only node"] = alone
	addBadStores(list)
	addBadWaits(list)
	addOtherStores(list)
	return list
}

// goodChain is the chain that others differ from in one thing.
func goodChain() impl.Chain {
	tail := impl.Store{Vers: []impl.Ver{value(0, tagAt(1, 0), "a"), {}, tombstone(2, tagAt(1, 1)), {}}}
	return chainFrom(tail, []impl.Ver{value(1, tagAt(2, 1), "b"), tombstone(0, tagAt(2, 0))}, []impl.Ver{value(0, tagAt(3, 0), "c"), value(0, tagAt(3, 2), "d")})
}

func addBadStores(list map[string]impl.Chain) {
	for name, s := range badStores() {
		for k := 0; k < 3; k++ {
			c := goodChain()
			c.Nodes[k].Store = s
			list[fmt.Sprint("store ", name, " of node ", k)] = c
		}
		list["store "+name+" alone"] = impl.Chain{Nodes: []impl.Node{{Store: s}}}
		list["store "+name+" twice"] = impl.Chain{Nodes: []impl.Node{{Store: s}, {Store: s}}}
	}
}

func addBadWaits(list map[string]impl.Chain) {
	change := func(name string, f func(n []impl.Node)) {
		c := goodChain()
		f(c.Nodes)
		list[name] = c
	}
	for name, v := range badVers() {
		change("waiting "+name, func(n []impl.Node) { n[0].Wait[0] = v })
		change("also waiting "+name, func(n []impl.Node) { n[1].Wait = append(n[1].Wait, v) })
		change("waiting at the tail "+name, func(n []impl.Node) { n[2].Wait = []impl.Ver{v} })
	}
	change("the zero Ver waits", func(n []impl.Node) { n[0].Wait = append(n[0].Wait, impl.Ver{}) })
	change("waiting at the tail", func(n []impl.Node) { n[2].Wait = []impl.Ver{n[2].Store.Vers[0]} })
	change("waiting later at the tail", func(n []impl.Node) { n[2].Wait = []impl.Ver{value(3, tagAt(9, 0), "x")} })
	change("in a wrong order", func(n []impl.Node) { n[0].Wait[0], n[0].Wait[1] = n[0].Wait[1], n[0].Wait[0] })
	change("nothing waits", func(n []impl.Node) { n[0].Wait = nil })
	change("the last one does not wait", func(n []impl.Node) { n[0].Wait = n[0].Wait[:1] })
	change("one key does not wait", func(n []impl.Node) { n[1].Wait = n[1].Wait[:1] })
	change("another key waits", func(n []impl.Node) { n[0].Wait = append(n[0].Wait, value(3, tagAt(9, 0), "x")) })
	change("waits twice", func(n []impl.Node) { n[0].Wait = append(n[0].Wait, n[0].Wait[1]) })
	change("waits although it was passed on", func(n []impl.Node) { n[0].Wait = append([]impl.Ver{n[1].Store.Vers[0]}, n[0].Wait...) })
	change("an earlier one waits first", func(n []impl.Node) { n[0].Wait = append([]impl.Ver{value(0, tagAt(1, 2), "z")}, n[0].Wait...) })
	change("an equal tag waits first", func(n []impl.Node) { n[0].Wait = append([]impl.Ver{value(0, tagAt(2, 0), "z")}, n[0].Wait...) })
}

// addOtherStores adds chains in which a node differs in one field from what it must have.
func addOtherStores(list map[string]impl.Chain) {
	fields := map[string]func(v *impl.Ver){
		"tag":   func(v *impl.Ver) { v.Tag.Time++ },
		"place": func(v *impl.Ver) { v.Tag.Place = 0 },
		"past":  func(v *impl.Ver) { v.Past.Tags[3] = tagAt(1, 1) },
		"text":  func(v *impl.Ver) { v.Text = "other" },
		"gone":  func(v *impl.Ver) { v.Text, v.Gone = "", true },
		"none":  func(v *impl.Ver) { *v = impl.Ver{} },
	}
	for name, f := range fields {
		c := goodChain()
		f(&c.Nodes[0].Store.Vers[0])
		list["other "+name+" than what waits"] = c
		c = goodChain()
		f(&c.Nodes[0].Wait[1])
		list["what waits has another "+name] = c
		c = goodChain()
		c.Nodes[0].Wait = nil
		c.Nodes[0].Store.Vers = copyOfVers(c.Nodes[1].Store.Vers)
		f(&c.Nodes[0].Store.Vers[1])
		list["other "+name+" where nothing waits"] = c
	}
	c := goodChain()
	c.Nodes[1].Store.Vers[3] = value(3, tagAt(1, 0), "x")
	list["a key that only the node between has"] = c
	c = goodChain()
	c.Nodes[2].Store.Vers[3] = value(3, tagAt(1, 0), "x")
	list["a key that only the tail has"] = c
}

// places is numbers of nodes or keys: all that may exist, those around, and extreme ones.
func places() []int {
	return []int{math.MinInt, -2, -1, 0, 1, 2, 3, 4, 5, math.MaxInt}
}

func mustBeValidChain(t *testing.T, c impl.Chain) {
	t.Helper()
	if !impl.ChainOk(c) {
		t.Errorf("chain is invalid: %v", c)
	}
}

// mustBeZeroChain is the result that each function has for an invalid argument.
func mustBeZeroChain(t *testing.T, name string, c impl.Chain, ok bool) {
	t.Helper()
	if ok || c.Nodes != nil {
		t.Errorf("%s: %v, %v is not the zero Chain and false", name, c, ok)
	}
}
