package tests

import (
	"fmt"
	"hash/crc32"
	"math"
	"math/rand"
	"slices"
	"testing"

	"loop.example/confluence/impl"
)

func TestLimitsOfRings(t *testing.T) {
	if impl.RingMax != 6 || impl.RingPoints != 3 {
		t.Error(impl.RingMax, impl.RingPoints)
	}
}

func TestRingOk(t *testing.T) {
	for _, r := range ringList() {
		if !impl.RingOk(r) {
			t.Errorf("RingOk(%v) is false", r)
		}
	}
	for name, r := range badRings() {
		if impl.RingOk(r) {
			t.Errorf("%s: RingOk(%v) is true", name, r)
		}
	}
}

func TestRingOkLooksAtEachByte(t *testing.T) {
	for b := 0; b < 256; b++ {
		for at := 0; at < 8; at++ {
			name := []byte("mmmmmmmm")
			name[at] = byte(b)
			letter := b >= 'a' && b <= 'z'
			if impl.RingOk(ringOf(string(name))) != letter {
				t.Errorf("byte %d at %d", b, at)
			}
			if r, ok := impl.RingAdd(impl.Ring{}, string(name)); ok != letter || letter != (len(r.Names) == 1) {
				t.Errorf("byte %d at %d: %v, %v", b, at, r, ok)
			}
		}
	}
}

func TestP52ANewNameTakesOverKeys(t *testing.T) {
	taken, left := 0, 0
	for _, r := range ringList() {
		for _, name := range nameList() {
			x, ok := impl.RingAdd(r, name)
			if ok != (len(r.Names) < 6 && !slices.Contains(r.Names, name)) {
				t.Fatalf("RingAdd(%v, %q) is %v, %v", r, name, x, ok)
			}
			if !ok {
				if !sameRing(x, r) {
					t.Errorf("RingAdd(%v, %q) fails with %v", r, name, x)
				}
				continue
			}
			if !sameRing(x, withName(r, name)) || !impl.RingOk(x) {
				t.Fatalf("RingAdd(%v, %q) is %v", r, name, x)
			}
			if back, ok := impl.RingDrop(x, name); !ok || !sameRing(back, r) {
				t.Errorf("RingDrop(%v, %q) is %v, %v", x, name, back, ok)
			}
			for _, key := range ringKeys() {
				switch impl.RingOwner(x, key) {
				case name:
					taken++
				case impl.RingOwner(r, key):
					left++
				default:
					t.Errorf("the owner of %q becomes %q in %v", key, impl.RingOwner(x, key), x)
				}
			}
		}
	}
	if taken < 1000 || left < 1000 {
		t.Error("too few keys:", taken, left)
	}
}

func TestP52NamesThatCannotBeAdded(t *testing.T) {
	for _, r := range ringList() {
		for _, name := range append(badNames(), r.Names...) {
			if x, ok := impl.RingAdd(r, name); ok || !sameRing(x, r) {
				t.Errorf("RingAdd(%v, %q) is %v, %v", r, name, x, ok)
			}
		}
	}
	r := impl.Ring{}
	for i, name := range []string{"f", "b", "d", "a", "e", "c", "g"} {
		x, ok := impl.RingAdd(r, name)
		if ok != (i < 6) || !ok && !sameRing(x, r) {
			t.Fatalf("RingAdd(%v, %q) is %v, %v", r, name, x, ok)
		}
		r = x
	}
	if !sameRing(r, ringOf("a", "b", "c", "d", "e", "f")) {
		t.Error(r)
	}
}

func TestP52InvalidRings(t *testing.T) {
	for name, r := range badRings() {
		for _, added := range append(nameList(), badNames()...) {
			x, ok := impl.RingAdd(r, added)
			mustBeZeroRing(t, name, x, ok)
		}
	}
}

func TestP53WhenANameLeavesItsSuccessorsTakeOver(t *testing.T) {
	for _, r := range ringList() {
		for _, name := range r.Names {
			x, ok := impl.RingDrop(r, name)
			if !ok || !sameRing(x, impl.Ring{Names: withoutName(r.Names, name)}) || !impl.RingOk(x) {
				t.Fatalf("RingDrop(%v, %q) is %v, %v", r, name, x, ok)
			}
			for _, key := range ringKeys() {
				before := withoutName(impl.RingChain(r, key, 6), name)
				for many := 0; many <= 6; many++ {
					if after := impl.RingChain(x, key, many); !slices.Equal(after, before[:min(many, len(before))]) {
						t.Fatalf("RingChain(%v, %q, %d) is %v, and with %q before %v", x, key, many, after, name, before)
					}
				}
			}
		}
	}
}

func TestP53NamesThatAreNotThere(t *testing.T) {
	for _, r := range ringList() {
		for _, name := range append(nameList(), badNames()...) {
			if slices.Contains(r.Names, name) {
				continue
			}
			if x, ok := impl.RingDrop(r, name); ok || !sameRing(x, r) {
				t.Errorf("RingDrop(%v, %q) is %v, %v", r, name, x, ok)
			}
		}
	}
	for name, r := range badRings() {
		for _, dropped := range append(slices.Clone(r.Names), "a", "m", "x", "") {
			x, ok := impl.RingDrop(r, dropped)
			mustBeZeroRing(t, name, x, ok)
		}
	}
}

func TestP54AChainConsistsOfNamesOfTheRing(t *testing.T) {
	for _, r := range ringList() {
		for _, key := range ringKeys() {
			all := impl.RingChain(r, key, 6)
			if len(all) != len(r.Names) || len(all) > 0 && all[0] != impl.RingOwner(r, key) {
				t.Fatalf("RingChain(%v, %q, 6) is %v", r, key, all)
			}
			for many := 0; many <= 6; many++ {
				chain := impl.RingChain(r, key, many)
				if !slices.Equal(chain, chainOfModel(r, key, many)) {
					t.Fatalf("RingChain(%v, %q, %d) is %v instead of %v", r, key, many, chain, chainOfModel(r, key, many))
				}
				if !slices.Equal(chain, all[:min(many, len(all))]) {
					t.Errorf("RingChain(%v, %q, %d) is %v, no beginning of %v", r, key, many, chain, all)
				}
			}
			slices.Sort(all)
			if !slices.Equal(all, r.Names) {
				t.Errorf("RingChain(%v, %q, 6) has the names %v", r, key, all)
			}
		}
	}
}

func TestP54ChainsThatThereAreNot(t *testing.T) {
	r := ringOf("east", "north", "west")
	for _, many := range []int{math.MinInt, -2, -1, 7, 8, math.MaxInt} {
		if chain := impl.RingChain(r, "a", many); chain != nil {
			t.Errorf("RingChain of %d is %v", many, chain)
		}
	}
	for _, key := range badKeys() {
		for many := 0; many <= 6; many++ {
			if chain := impl.RingChain(r, key, many); chain != nil {
				t.Errorf("RingChain of %q is %v", key, chain)
			}
		}
	}
	for name, bad := range badRings() {
		for many := -1; many <= 7; many++ {
			if chain := impl.RingChain(bad, "a", many); chain != nil {
				t.Errorf("%s: RingChain is %v", name, chain)
			}
		}
	}
	for many := 0; many <= 6; many++ {
		if chain := impl.RingChain(impl.Ring{}, "a", many); len(chain) != 0 {
			t.Errorf("RingChain of no names is %v", chain)
		}
	}
}

func TestP54TwoNamesThatAreAsFar(t *testing.T) {
	for _, p := range twinNames() {
		for _, key := range ringKeys() {
			if farModel(p[0], key) != farModel(p[1], key) || p[0] >= p[1] {
				t.Fatalf("%v are not as far from %q", p, key)
			}
			if chain := impl.RingChain(ringOf(p[0], p[1]), key, 6); !slices.Equal(chain, p[:]) {
				t.Errorf("RingChain of %q is %v", key, chain)
			}
			// They are neighbours also where others are nearer, or farther.
			chain := impl.RingChain(withName(withName(ringOf(p[0], p[1]), "east"), "west"), key, 6)
			if at := slices.Index(chain, p[0]); at < 0 || at == 3 || chain[at+1] != p[1] {
				t.Errorf("RingChain of %q is %v", key, chain)
			}
		}
	}
}

func TestP54NamesThatShareSomePoints(t *testing.T) {
	as, apart := 0, 0
	for _, p := range crossedNames() {
		for _, key := range ringKeys() {
			first := p[0]
			switch d := farModel(p[0], key) - farModel(p[1], key); {
			case d == 0:
				as++
			case d > 0:
				first = p[1]
				apart++
			default:
				apart++
			}
			if owner := impl.RingOwner(ringOf(p[0], p[1]), key); owner != first {
				t.Errorf("the owner of %q is %q", key, owner)
			}
		}
	}
	if as < 20 || apart < 20 {
		t.Error("too few keys:", as, apart)
	}
}

// spot is a point of a name, made without the program.
func spot(name string, k int) uint32 {
	return crc32.ChecksumIEEE([]byte(fmt.Sprintf("%s#%d", name, k)))
}

func TestP54TheDistanceGoesOneWay(t *testing.T) {
	for _, x := range []struct {
		key   string
		name  string
		point int
		far   uint32
	}{
		{"hd", "bpiks", 1, 0}, {"he", "bpiks", 0, 0}, {"kb", "cwscz", 2, 1}, {"and", "clbtv", 1, 1},
		{"xe", "bctij", 2, math.MaxUint32}, {"bne", "clbtu", 0, math.MaxUint32},
	} {
		if d := spot(x.name, x.point) - crc32.ChecksumIEEE([]byte("key "+x.key)); d != x.far {
			t.Fatalf("%v: %d", x, d)
		}
		for _, other := range []string{"east", "a", "zz", "north"} {
			r := withName(ringOf(x.name), other)
			owner := impl.RingOwner(r, x.key)
			if owner != ownerModel(r, x.key) || x.far <= 1 && owner != x.name {
				t.Errorf("the owner of %q in %v is %q", x.key, r, owner)
			}
		}
	}
}

func TestP54ADistanceThatWrapsAround(t *testing.T) {
	r := rand.New(rand.NewSource(54))
	wraps := 0
	for i := 0; i < 3000; i++ {
		ring, key := someRing(r, 3), someText(r)
		from := crc32.ChecksumIEEE([]byte("key " + key))
		last, first, owner := uint32(0), uint32(math.MaxUint32), ""
		for _, name := range ring.Names {
			for k := 0; k < 3; k++ {
				last = max(last, spot(name, k))
				if spot(name, k) < first {
					first, owner = spot(name, k), name
				}
			}
		}
		if from <= last {
			continue
		}
		wraps++
		if got := impl.RingOwner(ring, key); got != owner {
			t.Errorf("the owner of %q in %v is %q instead of %q", key, ring, got, owner)
		}
	}
	if wraps < 100 {
		t.Error("too few keys behind all points:", wraps)
	}
}

func TestP55EveryKeyHasAnOwner(t *testing.T) {
	for _, r := range ringList() {
		for _, key := range ringKeys() {
			owner := impl.RingOwner(r, key)
			if owner != ownerModel(r, key) {
				t.Errorf("RingOwner(%v, %q) is %q", r, key, owner)
			}
			if slices.Contains(r.Names, owner) != (len(r.Names) > 0) {
				t.Errorf("RingOwner(%v, %q) is %q", r, key, owner)
			}
			if len(r.Names) == 1 && owner != r.Names[0] {
				t.Errorf("RingOwner(%v, %q) is %q", r, key, owner)
			}
		}
	}
}

func TestP55KeysWithoutAnOwner(t *testing.T) {
	for _, key := range append(ringKeys(), badKeys()...) {
		if owner := impl.RingOwner(impl.Ring{}, key); owner != "" {
			t.Errorf("the owner of %q in an empty ring is %q", key, owner)
		}
		for name, r := range badRings() {
			if owner := impl.RingOwner(r, key); owner != "" {
				t.Errorf("%s: the owner of %q is %q", name, key, owner)
			}
		}
	}
	for _, key := range badKeys() {
		if owner := impl.RingOwner(ringOf("a"), key); owner != "" {
			t.Errorf("the owner of %q is %q", key, owner)
		}
	}
}

func TestP56RingMovedCountsKeys(t *testing.T) {
	keys := append(ringKeys(), badKeys()...)
	keys = append(keys, "k1", "k1")
	moved := 0
	rings := ringList()
	for i, a := range rings {
		if n := impl.RingMoved(a, a, keys); n != 0 {
			t.Errorf("RingMoved(%v, the same) is %d", a, n)
		}
		for _, b := range rings[:i] {
			want, sum := 0, 0
			for _, key := range keys {
				if textOk(key, false) && ownerModel(a, key) != ownerModel(b, key) {
					want++
				}
				sum += impl.RingMoved(a, b, []string{key})
			}
			n := impl.RingMoved(a, b, keys)
			if n != want || n != sum || n != impl.RingMoved(b, a, keys) || n != impl.RingMoved(a, b, keys[:9])+impl.RingMoved(a, b, keys[9:]) {
				t.Errorf("RingMoved(%v, %v) is %d instead of %d", a, b, n, want)
			}
			moved += n
		}
	}
	if moved < 1000 {
		t.Error("too few keys:", moved)
	}
}

func TestP56RingsAndKeysWithoutOwners(t *testing.T) {
	a := ringOf("a", "b")
	keys := []string{"k", "", "k", "no key", "123456789"}
	for _, none := range []impl.Ring{{}, ringOf("b", "a"), ringOf("A")} {
		if n := impl.RingMoved(a, none, keys); n != 3 {
			t.Errorf("RingMoved to %v is %d", none, n)
		}
		if n := impl.RingMoved(none, a, keys); n != 3 {
			t.Errorf("RingMoved from %v is %d", none, n)
		}
		if n := impl.RingMoved(none, impl.Ring{}, keys); n != 0 {
			t.Errorf("RingMoved from %v to no names is %d", none, n)
		}
	}
	if n := impl.RingMoved(a, ringOf("c"), nil); n != 0 {
		t.Error("no keys:", n)
	}
	if n := impl.RingMoved(a, ringOf("c"), slices.Repeat([]string{"k"}, 500)); n != 500 {
		t.Error("one key 500 times:", n)
	}
}
