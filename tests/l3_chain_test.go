package tests

import (
	"math"
	"math/rand"
	"sort"
	"testing"

	"loop.example/confluence/impl"
)

func TestLimitsOfChains(t *testing.T) {
	if impl.NodeMax != 4 || impl.WaitMax != 6 {
		t.Error(impl.NodeMax, impl.WaitMax)
	}
}

func TestChainOk(t *testing.T) {
	for _, c := range append(chainList(), goodChain()) {
		mustBeValidChain(t, c)
	}
	for name, c := range badChains() {
		if impl.ChainOk(c) {
			t.Errorf("%s: ChainOk(%v) is true", name, c)
		}
	}
}

func TestChainOkTakesNilAndEmptyAsTheSame(t *testing.T) {
	c := goodChain()
	c.Nodes[0].Store.Vers[3].Past.Tags = []impl.Tag{}
	c.Nodes[1].Store.Vers[3].Past.Tags = nil
	c.Nodes[2].Wait = []impl.Ver{}
	mustBeValidChain(t, c)
	c.Nodes[2].Wait = nil
	mustBeValidChain(t, c)
}

func TestP12ANewChainIsEmpty(t *testing.T) {
	for n := 1; n <= 4; n++ {
		c := impl.ChainNew(n)
		mustBeValidChain(t, c)
		if len(c.Nodes) != n {
			t.Errorf("ChainNew(%d) has %d nodes", n, len(c.Nodes))
		}
		for _, node := range c.Nodes {
			if !sameNode(node, impl.Node{Store: impl.Store{Vers: make([]impl.Ver, 4)}}) {
				t.Errorf("ChainNew(%d) has the node %v", n, node)
			}
		}
		if !samePast(impl.ChainStable(c), impl.PastNone()) {
			t.Errorf("ChainStable of ChainNew(%d) is %v", n, impl.ChainStable(c))
		}
	}
	for _, n := range []int{math.MinInt, -1, 0, 5, 6, math.MaxInt} {
		if c := impl.ChainNew(n); c.Nodes != nil {
			t.Errorf("ChainNew(%d) is %v", n, c)
		}
	}
}

// applied is c after v is applied at node k, made without the program.
func applied(c impl.Chain, k int, v impl.Ver) impl.Chain {
	out := copyOfChain(c)
	n := &out.Nodes[k]
	if !impl.TagLess(n.Store.Vers[v.Key].Tag, v.Tag) {
		return out
	}
	n.Store.Vers[v.Key] = v
	if k < len(out.Nodes)-1 {
		n.Wait = append(n.Wait, v)
	}
	return out
}

// versFor is versions that are later than, equal to and earlier than those of a node.
func versFor(r *rand.Rand, n impl.Node) []impl.Ver {
	var list []impl.Ver
	for key, old := range n.Store.Vers {
		list = append(list, someVer(r, key), someLaterVer(r, key, old.Tag), tombstone(key, tagAt(999, 2)))
		if old.Tag.Time > 0 {
			list = append(list, old, value(key, old.Tag, "equal"), value(key, tagAt(1, 0), "old"))
		}
	}
	return list
}

func TestP13AWriteIsAppliedAtTheHead(t *testing.T) {
	r := rand.New(rand.NewSource(13))
	for _, c := range chainList() {
		full := len(c.Nodes[0].Wait) == 6
		for _, v := range versFor(r, c.Nodes[0]) {
			x, ok := impl.ChainPut(c, v)
			if ok == full {
				t.Errorf("ChainPut(%v, %v) is %v", c, v, ok)
			}
			want := c
			if !full {
				want = applied(c, 0, v)
			}
			if !sameChain(x, want) {
				t.Errorf("ChainPut(%v, %v) is %v", c, v, x)
			}
			mustBeValidChain(t, x)
			if !full && !sameStore(x.Nodes[0].Store, impl.StoreAdd(c.Nodes[0].Store, v)) {
				t.Errorf("the head of ChainPut(%v, %v) is not StoreAdd", c, v)
			}
		}
	}
}

func TestP13SixWaitAtTheHead(t *testing.T) {
	c := impl.ChainNew(2)
	for i := 1; i <= 6; i++ {
		var ok bool
		c, ok = impl.ChainPut(c, value(3, tagAt(i, 0), "n"))
		if !ok || len(c.Nodes[0].Wait) != i || c.Nodes[0].Wait[i-1].Tag != tagAt(i, 0) {
			t.Fatal(i, ok, c)
		}
	}
	for _, v := range []impl.Ver{value(3, tagAt(7, 0), "n"), value(0, tagAt(1, 0), "n"), value(3, tagAt(1, 0), "old")} {
		if x, ok := impl.ChainPut(c, v); ok || !sameChain(x, c) {
			t.Errorf("seventh: %v, %v", x, ok)
		}
	}
}

func TestP13NothingWaitsAtTheOnlyNode(t *testing.T) {
	c := impl.ChainNew(1)
	for i := 1; i <= 9; i++ {
		var ok bool
		c, ok = impl.ChainPut(c, value(3, tagAt(i, 0), "n"))
		if !ok || len(c.Nodes[0].Wait) != 0 || c.Nodes[0].Store.Vers[3].Tag != tagAt(i, 0) {
			t.Fatal(i, ok, c)
		}
	}
}

func TestP13InvalidArguments(t *testing.T) {
	for name, c := range badChains() {
		x, ok := impl.ChainPut(c, value(0, tagAt(9, 0), "a"))
		mustBeZeroChain(t, name, x, ok)
	}
	for name, v := range badVers() {
		for _, c := range []impl.Chain{goodChain(), impl.ChainNew(1), chainFrom(impl.StoreNew(), sixWaiting(1))} {
			x, ok := impl.ChainPut(c, v)
			mustBeZeroChain(t, name, x, ok)
		}
	}
	for name, v := range nearZeroVers() {
		x, ok := impl.ChainPut(goodChain(), v)
		mustBeZeroChain(t, name, x, ok)
	}
	x, ok := impl.ChainPut(goodChain(), impl.Ver{})
	mustBeZeroChain(t, "zero Ver", x, ok)
}

// canPass says whether node k can pass a version on.
func canPass(c impl.Chain, k int) bool {
	return k >= 0 && k < len(c.Nodes)-1 && len(c.Nodes[k].Wait) > 0 && len(c.Nodes[k+1].Wait) < 6
}

func TestP14PassingOnMovesAVersion(t *testing.T) {
	for _, c := range chainList() {
		for _, k := range places() {
			x, ok := impl.ChainPass(c, k)
			if ok != canPass(c, k) {
				t.Errorf("ChainPass(%v, %d) is %v", c, k, ok)
			}
			if !canPass(c, k) {
				if !sameChain(x, c) {
					t.Errorf("ChainPass(%v, %d) changes the chain to %v", c, k, x)
				}
				continue
			}
			mustMoveOne(t, c, k, x)
		}
	}
}

func mustMoveOne(t *testing.T, c impl.Chain, k int, x impl.Chain) {
	t.Helper()
	first := c.Nodes[k].Wait[0]
	want := applied(c, k+1, first)
	want.Nodes[k].Wait = want.Nodes[k].Wait[1:]
	if !sameChain(x, want) {
		t.Fatalf("ChainPass(%v, %d) is %v", c, k, x)
	}
	mustBeValidChain(t, x)
	if len(x.Nodes[k].Wait) != len(c.Nodes[k].Wait)-1 {
		t.Errorf("ChainPass(%v, %d): %d wait", c, k, len(x.Nodes[k].Wait))
	}
	if !sameStore(x.Nodes[k+1].Store, impl.StoreAdd(c.Nodes[k+1].Store, first)) {
		t.Errorf("ChainPass(%v, %d): the next node is not StoreAdd", c, k)
	}
	if !impl.PastWithin(impl.ChainStable(c), impl.ChainStable(x)) {
		t.Errorf("ChainPass(%v, %d): ChainStable decreases", c, k)
	}
}

func TestP14SixWaitAtTheNextNode(t *testing.T) {
	c := chainFrom(impl.StoreNew(), sixWaiting(1), sixWaiting(7))
	if x, ok := impl.ChainPass(c, 0); ok || !sameChain(x, c) {
		t.Errorf("%v, %v", x, ok)
	}
	c, ok := impl.ChainPass(c, 1)
	if !ok || len(c.Nodes[1].Wait) != 5 || c.Nodes[2].Store.Vers[0].Tag != tagAt(1, 0) {
		t.Fatal(ok, c)
	}
	c, ok = impl.ChainPass(c, 0)
	if !ok || len(c.Nodes[0].Wait) != 5 || len(c.Nodes[1].Wait) != 6 || c.Nodes[1].Wait[5].Tag != tagAt(7, 0) {
		t.Error(ok, c)
	}
}

func TestP14InvalidArguments(t *testing.T) {
	for name, c := range badChains() {
		for _, k := range places() {
			x, ok := impl.ChainPass(c, k)
			mustBeZeroChain(t, name, x, ok)
		}
		if p := impl.ChainStable(c); p.Tags != nil {
			t.Errorf("%s: ChainStable is %v", name, p)
		}
	}
}

func TestChainStableIsTheTagsOfTheTail(t *testing.T) {
	for _, c := range chainList() {
		want := impl.StoreTags(c.Nodes[len(c.Nodes)-1].Store)
		if p := impl.ChainStable(c); len(p.Tags) != 4 || !samePast(p, want) {
			t.Errorf("ChainStable(%v) is %v", c, p)
		}
	}
}

func TestP15PassingOnTerminatesWithEqualNodes(t *testing.T) {
	r := rand.New(rand.NewSource(15))
	for _, start := range chainList() {
		c := start
		steps := 0
		for tries := 0; tries < 2000; tries++ {
			x, ok := impl.ChainPass(c, r.Intn(len(c.Nodes)))
			if ok {
				steps++
				c = x
			}
		}
		want := 0
		for k, n := range start.Nodes {
			want += len(n.Wait) * (len(start.Nodes) - 1 - k)
		}
		if steps != want {
			t.Errorf("%v becomes equal in %d steps instead of %d", start, steps, want)
		}
		for k, n := range c.Nodes {
			if !sameNode(n, impl.Node{Store: start.Nodes[0].Store}) {
				t.Errorf("node %d of %v becomes %v", k, start, n)
			}
		}
	}
}

// fallen is c without node k, made without the program.
func fallen(c impl.Chain, k int) impl.Chain {
	out := copyOfChain(c)
	out.Nodes = append(out.Nodes[:k:k], out.Nodes[k+1:]...)
	if k == 0 {
		return out
	}
	out.Nodes[k-1].Wait = nil
	if k == len(out.Nodes) {
		return out
	}
	var wait []impl.Ver
	for key := 3; key >= 0; key-- {
		v := out.Nodes[k-1].Store.Vers[key]
		if impl.TagLess(out.Nodes[k].Store.Vers[key].Tag, v.Tag) {
			wait = append(wait, v)
		}
	}
	// The larger keys are first, and a stable sort leaves them so.
	sort.SliceStable(wait, func(i, j int) bool { return impl.TagLess(wait[i].Tag, wait[j].Tag) })
	out.Nodes[k-1].Wait = wait
	return out
}

func TestP16AFailureLosesNothingThatTwoNodesHad(t *testing.T) {
	for _, c := range chainList() {
		for _, k := range places() {
			x, ok := impl.ChainFall(c, k)
			if k < 0 || k >= len(c.Nodes) || len(c.Nodes) == 1 {
				if ok || !sameChain(x, c) {
					t.Errorf("ChainFall(%v, %d) is %v, %v", c, k, x, ok)
				}
				continue
			}
			if !ok || !sameChain(x, fallen(c, k)) {
				t.Fatalf("ChainFall(%v, %d) is %v, %v", c, k, x, ok)
			}
			mustBeValidChain(t, x)
			if !impl.PastWithin(impl.ChainStable(c), impl.ChainStable(x)) {
				t.Errorf("ChainFall(%v, %d): ChainStable decreases", c, k)
			}
		}
	}
}

func TestP16OtherStoresAreUnchanged(t *testing.T) {
	for _, c := range chainList() {
		for k := 0; k < len(c.Nodes) && len(c.Nodes) > 1; k++ {
			x, _ := impl.ChainFall(c, k)
			for i, n := range x.Nodes {
				old := i
				if i >= k {
					old = i + 1
				}
				if !sameStore(n.Store, c.Nodes[old].Store) {
					t.Errorf("ChainFall(%v, %d) changes a store: %v", c, k, x)
				}
			}
		}
	}
}

func TestP16WhatWaitsThereFallsWithTheNode(t *testing.T) {
	c := goodChain()
	head, _ := impl.ChainFall(c, 0)
	if len(head.Nodes) != 2 || !sameNode(head.Nodes[0], c.Nodes[1]) || !sameNode(head.Nodes[1], c.Nodes[2]) {
		t.Errorf("without the head: %v", head)
	}
	// Two versions of key 0 waited at the head, and one of key 0 at the next node.
	between, _ := impl.ChainFall(c, 1)
	want := []impl.Ver{value(1, tagAt(2, 1), "b"), value(0, tagAt(3, 2), "d")}
	if len(between.Nodes) != 2 || !sameVers(between.Nodes[0].Wait, want) {
		t.Errorf("without the node between: %v", between)
	}
	tail, _ := impl.ChainFall(c, 2)
	if len(tail.Nodes) != 2 || !sameNode(tail.Nodes[0], c.Nodes[0]) || len(tail.Nodes[1].Wait) != 0 {
		t.Errorf("without the tail: %v", tail)
	}
}

func TestP16EqualTagsWaitWithTheLargerKeyFirst(t *testing.T) {
	c := chainFrom(impl.StoreNew(), nil, equalTags())
	x, ok := impl.ChainFall(c, 1)
	keys := []int{3, 1, 2, 0}
	if !ok || len(x.Nodes[0].Wait) != 4 {
		t.Fatal(x, ok)
	}
	for i, v := range x.Nodes[0].Wait {
		if v.Key != keys[i] {
			t.Errorf("key %d waits at %d", v.Key, i)
		}
	}
}

func TestP16InvalidArguments(t *testing.T) {
	for name, c := range badChains() {
		for _, k := range places() {
			x, ok := impl.ChainFall(c, k)
			mustBeZeroChain(t, name, x, ok)
		}
	}
}

func TestP17ANewNodeHasTheStableState(t *testing.T) {
	for _, c := range chainList() {
		x, ok := impl.ChainJoin(c)
		if len(c.Nodes) == 4 {
			if ok || !sameChain(x, c) {
				t.Errorf("ChainJoin(%v) is %v, %v", c, x, ok)
			}
			continue
		}
		want := copyOfChain(c)
		want.Nodes = append(want.Nodes, impl.Node{Store: c.Nodes[len(c.Nodes)-1].Store})
		if !ok || !sameChain(x, want) {
			t.Fatalf("ChainJoin(%v) is %v, %v", c, x, ok)
		}
		mustBeValidChain(t, x)
		if !samePast(impl.ChainStable(x), impl.ChainStable(c)) {
			t.Errorf("ChainJoin(%v) changes ChainStable", c)
		}
		if back, ok := impl.ChainFall(x, len(c.Nodes)); !ok || !sameChain(back, c) {
			t.Errorf("ChainFall of the new node of %v is %v, %v", c, back, ok)
		}
	}
	for name, c := range badChains() {
		x, ok := impl.ChainJoin(c)
		mustBeZeroChain(t, name, x, ok)
	}
}

// shownBy is the number of the node whose version node k shows.
func shownBy(c impl.Chain, k int) int {
	if k == 0 && len(c.Nodes) > 1 {
		return 1
	}
	return k
}

func TestP18ANodeShowsItsOwnVersion(t *testing.T) {
	for _, c := range chainList() {
		for _, k := range places() {
			for _, key := range places() {
				v, ok := impl.ChainShows(c, k, key)
				if k < 0 || k >= len(c.Nodes) || key < 0 || key > 3 {
					if ok || !isNone(v) {
						t.Errorf("ChainShows(%v, %d, %d) is %v, %v", c, k, key, v, ok)
					}
					continue
				}
				if !ok || !sameVer(v, c.Nodes[shownBy(c, k)].Store.Vers[key]) {
					t.Errorf("ChainShows(%v, %d, %d) is %v, %v", c, k, key, v, ok)
				}
			}
		}
	}
}

func TestP18ReadersSeeWhatIsOnTwoNodes(t *testing.T) {
	for _, c := range chainList() {
		for k := range c.Nodes {
			for key := 0; key < 4; key++ {
				shown, _ := impl.ChainShows(c, k, key)
				if next, ok := impl.ChainShows(c, k+1, key); ok && impl.TagLess(shown.Tag, next.Tag) {
					t.Errorf("%v: node %d shows a later version of %d than node %d", c, k+1, key, k)
				}
				for fall := range c.Nodes {
					x, ok := impl.ChainFall(c, fall)
					if ok && impl.TagLess(x.Nodes[0].Store.Vers[key].Tag, shown.Tag) {
						t.Errorf("%v: node %d falls, and the version of %d that %d showed is lost", c, fall, key, k)
					}
				}
			}
		}
	}
}

func TestP18WhatTheHeadAloneHasIsNotShown(t *testing.T) {
	c, _ := impl.ChainPut(impl.ChainNew(2), value(2, tagAt(1, 0), "a"))
	if v, ok := impl.ChainShows(c, 0, 2); !ok || !isNone(v) {
		t.Error(v, ok)
	}
	c, _ = impl.ChainPass(c, 0)
	for k := 0; k < 2; k++ {
		if v, ok := impl.ChainShows(c, k, 2); !ok || v.Text != "a" {
			t.Error(k, v, ok)
		}
	}
	alone, _ := impl.ChainPut(impl.ChainNew(1), tombstone(2, tagAt(1, 0)))
	if v, ok := impl.ChainShows(alone, 0, 2); !ok || !sameVer(v, tombstone(2, tagAt(1, 0))) {
		t.Error(v, ok)
	}
}

func TestP18InvalidChains(t *testing.T) {
	for name, c := range badChains() {
		for _, k := range places() {
			if v, ok := impl.ChainShows(c, k, 0); ok || !isNone(v) {
				t.Errorf("%s: ChainShows of node %d is %v, %v", name, k, v, ok)
			}
		}
	}
}
