package tests

import (
	"fmt"
	"math/rand"
	"reflect"
	"slices"
	"strings"
	"testing"

	"loop.example/confluence/impl"
)

func ringOf(names ...string) impl.Ring {
	return impl.Ring{Names: names}
}

func sameRing(a impl.Ring, b impl.Ring) bool {
	return slices.Equal(a.Names, b.Names)
}

// The two names of each pair below have the same points: all three of them, or two.

func twinNames() [][2]string {
	return [][2]string{{"bjjgtzqq", "wukjhtff"}, {"fzrdliv", "gbclpf"}, {"axfwwz", "odlvfmgd"}}
}

func crossedNames() [][2]string {
	return [][2]string{{"bakmeol", "mdytao"}, {"xhxqjqyx", "yvvtaizv"}, {"bsuzvhxq", "lxukiocs"}, {"hbctfq", "tbqiivf"}}
}

// nameList is names of all lengths.
func nameList() []string {
	list := []string{"a", "z", "aa", "ab", "az", "abcdefgh", "zzzzzzzz", "aaaaaaaa", "east", "west", "north", "south", "key"}
	for _, p := range append(twinNames(), crossedNames()...) {
		list = append(list, p[0], p[1])
	}
	return list
}

// badNames is texts that are no names.
func badNames() []string {
	list := []string{"", "abcdefghi", "zzzzzzzzz", strings.Repeat("a", 1000), "A", "Z", "East", "easT", "eAst", "1", "a1", "1a", "a b", " a", "a ", "a#0", "a\n", "\x00", "a\x00", "\xff", "é", "a-b", "_", "`", "{", "@", "["}
	return append(list, "abcdefg1", "abcdefgH")
}

// someRing is a ring of that many names.
func someRing(r *rand.Rand, many int) impl.Ring {
	var names []string
	for len(names) < many {
		b := make([]byte, 1+r.Intn(8))
		for i := range b {
			b[i] = byte('a' + r.Intn(26))
		}
		names = append(names, string(b))
		slices.Sort(names)
		names = slices.Compact(names)
	}
	return impl.Ring{Names: names}
}

// ringList has valid rings with all edges that the document names.
func ringList() []impl.Ring {
	r := rand.New(rand.NewSource(52))
	list := []impl.Ring{{}, {Names: []string{}}, ringOf("a"), ringOf("zzzzzzzz"), ringOf("a", "aa"), ringOf("east", "north", "south", "west"), ringOf("a", "b", "c", "d", "e", "f")}
	for _, p := range append(twinNames(), crossedNames()...) {
		list = append(list, ringOf(p[0], p[1]), withName(withName(ringOf(p[0], p[1]), "east"), "zzzzzzzz"))
	}
	all := append(twinNames()[0][:], twinNames()[1][:]...)
	all = append(all, twinNames()[2][:]...)
	slices.Sort(all)
	list = append(list, impl.Ring{Names: all})
	for i := 0; i < 30; i++ {
		list = append(list, someRing(r, i%7))
	}
	return list
}

// badRings is invalid rings by what is wrong with them.
func badRings() map[string]impl.Ring {
	list := map[string]impl.Ring{
		"seven names":             ringOf("a", "b", "c", "d", "e", "f", "g"),
		"a hundred names":         ringOf(slices.Repeat([]string{"a"}, 100)...),
		"out of order":            ringOf("b", "a"),
		"the last out of order":   ringOf("a", "c", "d", "b"),
		"the first out of order":  ringOf("b", "a", "c"),
		"a longer one before":     ringOf("ab", "a"),
		"twice":                   ringOf("a", "a"),
		"twice at the end":        ringOf("a", "b", "b"),
		"twice at the beginning":  ringOf("a", "a", "b"),
		"twice and not neighbour": ringOf("a", "b", "a"),
	}
	for i, name := range badNames() {
		list[fmt.Sprint("bad name ", i, " alone")] = ringOf(name)
		list[fmt.Sprint("bad name ", i, " first")] = ringOf(name, "m", "zzzzzzzz")
		list[fmt.Sprint("bad name ", i, " last")] = ringOf("a", "m", name)
		list[fmt.Sprint("bad name ", i, " in order")] = withName(ringOf("a", "m", "zzzzzzzz"), name)
	}
	return list
}

// ringKeys is texts of keys.
func ringKeys() []string {
	r := rand.New(rand.NewSource(53))
	list := []string{"", "a", "k1", "12345678", "!", "~", "!~", "#", "a#0", "key", "=", "-", "hd", "kb", "xe"}
	for i := 0; i < 40; i++ {
		list = append(list, someText(r))
	}
	return list
}

// badKeys is texts that no version has.
func badKeys() []string {
	return []string{"123456789", strings.Repeat("k", 1000), " ", "a b", "a ", " a", "\n", "a\n", "\x00", "\x1f", "\x7f", "\x80", "\xff", "é", "1234567\x7f"}
}

// mustBeZeroRing is the result for an invalid ring.
func mustBeZeroRing(t *testing.T, name string, r impl.Ring, ok bool) {
	t.Helper()
	if ok || !reflect.DeepEqual(r, impl.Ring{}) {
		t.Errorf("%s: %v, %v is not the zero Ring and false", name, r, ok)
	}
}
