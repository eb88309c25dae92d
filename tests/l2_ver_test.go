package tests

import (
	"fmt"
	"math/rand"
	"strings"
	"testing"

	"loop.example/confluence/impl"
)

// verList has valid versions with all edges that the document names.
func verList() []impl.Ver {
	r := rand.New(rand.NewSource(2))
	zero := impl.Tag{}
	list := []impl.Ver{
		value(0, tagAt(1, 0), ""),
		value(3, tagAt(999, 2), "12345678"),
		value(1, tagAt(1, 2), "-"),
		value(1, tagAt(1, 2), "="),
		value(1, tagAt(1, 2), "==-"),
		value(2, tagAt(7, 1), "!~"),
		{Key: 2, Tag: tagAt(1, 1), Past: impl.PastNone(), Gone: true},
		{Key: 2, Tag: tagAt(999, 0), Past: pastOf(tagAt(998, 2), tagAt(998, 2), tagAt(998, 2), tagAt(998, 2)), Gone: true},
		{Key: 2, Tag: tagAt(5, 1), Past: pastOf(tagAt(4, 2), zero, tagAt(3, 1), zero), Text: "a=#"},
	}
	for b := byte(33); b <= 126; b++ {
		list = append(list, value(0, tagAt(3, 1), string([]byte{b})))
	}
	for i := 0; i < 60; i++ {
		list = append(list, someVer(r, i%impl.KeyMax))
	}
	return list
}

// verText is the encoding of a valid version, made without the program.
func verText(v impl.Ver) string {
	s := fmt.Sprintf("%d %d.%d", v.Key, v.Tag.Time, v.Tag.Place)
	for _, t := range v.Past.Tags {
		s += fmt.Sprintf(" %d.%d", t.Time, t.Place)
	}
	if v.Gone {
		return s + " -"
	}
	return s + " =" + v.Text
}

func TestLimitOfTexts(t *testing.T) {
	if impl.TextMax != 8 {
		t.Error(impl.TextMax)
	}
}

func TestVerOk(t *testing.T) {
	for _, v := range verList() {
		if !impl.VerOk(v) {
			t.Errorf("VerOk(%v) is false", v)
		}
	}
	for name, v := range badVers() {
		if impl.VerOk(v) {
			t.Errorf("%s: VerOk(%v) is true", name, v)
		}
	}
	for name, v := range nearZeroVers() {
		if impl.VerOk(v) {
			t.Errorf("%s: VerOk(%v) is true", name, v)
		}
	}
	if impl.VerOk(impl.Ver{}) {
		t.Error("the zero Ver is no version")
	}
}

func TestVerOkLooksAtEachByte(t *testing.T) {
	for b := 0; b < 256; b++ {
		for at := 0; at < impl.TextMax; at++ {
			text := []byte("abcdefgh")
			text[at] = byte(b)
			if impl.VerOk(value(1, tagAt(1, 0), string(text))) != (b >= 33 && b <= 126) {
				t.Errorf("byte %d at %d", b, at)
			}
		}
	}
}

func TestP7VerGetInvertsVerPut(t *testing.T) {
	for _, v := range verList() {
		s := impl.VerPut(v)
		if s != verText(v) {
			t.Errorf("VerPut(%v) is %q", v, s)
		}
		x, ok := impl.VerGet(s)
		if !ok || !sameVer(x, v) {
			t.Errorf("VerGet(%q) is %v, %v", s, x, ok)
		}
		for _, p := range x.Past.Tags {
			if !impl.TagLess(p, x.Tag) {
				t.Errorf("the tag of %q is not later than %v", s, p)
			}
		}
	}
}

func TestP7VerPutOfInvalidIsEmpty(t *testing.T) {
	for name, v := range badVers() {
		if s := impl.VerPut(v); s != "" {
			t.Errorf("%s: VerPut is %q", name, s)
		}
		if len(v.Past.Tags) == impl.KeyMax {
			mustNotBeRead(t, verText(v))
		}
	}
	for name, v := range nearZeroVers() {
		if s := impl.VerPut(v); s != "" {
			t.Errorf("%s: VerPut is %q", name, s)
		}
	}
	if s := impl.VerPut(impl.Ver{}); s != "" {
		t.Errorf("VerPut of the zero Ver is %q", s)
	}
}

// mustNotBeRead passes over a tombstone with a text: its encoding would be that of a valid one.
func mustNotBeRead(t *testing.T, s string) {
	t.Helper()
	if strings.HasSuffix(s, " -") {
		return
	}
	if v, ok := impl.VerGet(s); ok || !isNone(v) {
		t.Errorf("VerGet(%q) is %v, %v", s, v, ok)
	}
}

func TestP8VerGetRefusesOtherStrings(t *testing.T) {
	list := []string{
		"", " ", "=", "-", "      ", "       ", "0", "2 5.1",
		"2 5.1 4.2 0.0 3.1 0.0", "2 5.1 4.2 0.0 3.1 0.0 ", "2 5.1 4.2 0.0 3.1 =a", "2 5.1 4.2 0.0 3.1 0.0 0.0 =a",
		"2 5.1 4.2 0.0 3.1 0.0 a", "2 5.1 4.2 0.0 3.1 0.0 -a", "2 5.1 4.2 0.0 3.1 0.0 --", "2 5.1 4.2 0.0 3.1 0.0 -=", "2 5.1 4.2 0.0 3.1 0.0 - ",
		"2 5.1 4.2 0.0 3.1 0.0 =a b", "2 5.1 4.2 0.0 3.1 0.0 =a ", "2 5.1 4.2 0.0 3.1 0.0  =a", "2 5.1 4.2 0.0 3.1 0.0 =a\n",
		" 2 5.1 4.2 0.0 3.1 0.0 =a", "2  5.1 4.2 0.0 3.1 0.0 =a", "2\t5.1 4.2 0.0 3.1 0.0 =a",
		"02 5.1 4.2 0.0 3.1 0.0 =a", "+2 5.1 4.2 0.0 3.1 0.0 =a", "-0 5.1 4.2 0.0 3.1 0.0 =a", "4 5.1 4.2 0.0 3.1 0.0 =a", "-1 5.1 4.2 0.0 3.1 0.0 =a",
		"2 05.1 4.2 0.0 3.1 0.0 =a", "2 5.1 4.2 0.0 3.1 00.0 =a", "2 5.1 4.2 0.1 3.1 0.0 =a", "2 5.1 4.3 0.0 3.1 0.0 =a",
		"2 5.1 5.0 0.0 3.1 0.0 =a", "2 5.1 4.2 0.0 3.1 5.1 =a", "2 5.1 6.0 0.0 3.1 0.0 =a", "2 0.0 0.0 0.0 0.0 0.0 =", "2 0.0 0.0 0.0 0.0 0.0 -",
		"2 1000.1 4.2 0.0 3.1 0.0 =a", "2 5.1 4.2 0.0 3.1 0.0 =123456789", "2 5.1 4.2 0.0 3.1 0.0 =\x7f", "2 5.1 4.2 0.0 3.1 0.0 =\xc3\xa9",
		strings.Repeat(" ", 10000), strings.Repeat("1.0 ", 1000), "2 5.1 4.2 0.0 3.1 0.0 =" + strings.Repeat("a", 10000),
	}
	for _, s := range list {
		if v, ok := impl.VerGet(s); ok || !isNone(v) {
			t.Errorf("VerGet(%q) is %v, %v", s, v, ok)
		}
	}
}

func TestP8VerEncodingIsCanonical(t *testing.T) {
	read := 0
	for _, v := range verList() {
		for _, s := range neighbours(verText(v)) {
			x, ok := impl.VerGet(s)
			if !ok && !isNone(x) {
				t.Errorf("VerGet(%q) fails with %v", s, x)
			}
			if ok && (impl.VerPut(x) != s || verText(x) != s || !impl.VerOk(x)) {
				t.Errorf("VerGet(%q) is %v, which is written %q", s, x, impl.VerPut(x))
			}
			if ok {
				read++
			}
		}
	}
	if read == 0 {
		t.Error("no neighbour was an encoding")
	}
}

func TestStoreOk(t *testing.T) {
	for _, s := range storeList() {
		mustBeValid(t, s)
	}
	for name, s := range badStores() {
		if impl.StoreOk(s) {
			t.Errorf("%s: StoreOk(%v) is true", name, s)
		}
	}
}

func TestStoreOkTakesAnEmptyPastAsNil(t *testing.T) {
	s := impl.StoreNew()
	s.Vers[1].Past.Tags = []impl.Tag{}
	mustBeValid(t, s)
	if !sameStore(impl.StoreJoin(s, s), impl.StoreNew()) || !impl.StoreClosed(s) {
		t.Error("an empty Past is not that of the zero Ver")
	}
}

func TestStoreNewIsZeroVers(t *testing.T) {
	s := impl.StoreNew()
	if len(s.Vers) != impl.KeyMax {
		t.Fatal(s)
	}
	for _, v := range s.Vers {
		if !isNone(v) {
			t.Error(v)
		}
	}
	mustBeValid(t, s)
}

func storeList() []impl.Store {
	r := rand.New(rand.NewSource(3))
	list := []impl.Store{{Vers: make([]impl.Ver, impl.KeyMax)}}
	for len(list) < 60 {
		list = append(list, someStore(r), someClosedStore(r))
	}
	return list
}

func TestP9StoreAddKeepsTheLaterVersion(t *testing.T) {
	for _, s := range storeList() {
		for _, v := range verList() {
			x := impl.StoreAdd(s, v)
			mustBeValid(t, x)
			want := append([]impl.Ver(nil), s.Vers...)
			if rank(v.Tag) > rank(want[v.Key].Tag) {
				want[v.Key] = v
			}
			if !sameStore(x, impl.Store{Vers: want}) {
				t.Errorf("StoreAdd(%v, %v) is %v", s, v, x)
			}
			if x.Vers[v.Key].Tag != impl.TagMax(s.Vers[v.Key].Tag, v.Tag) {
				t.Errorf("StoreAdd(%v, %v) has the tag %v", s, v, x.Vers[v.Key].Tag)
			}
			if !sameStore(impl.StoreAdd(x, v), x) {
				t.Errorf("StoreAdd(%v, %v) is not idempotent", s, v)
			}
		}
	}
}

func TestP9StoreAddOfAnEqualTagKeepsTheOld(t *testing.T) {
	s := impl.StoreAdd(impl.StoreNew(), value(2, tagAt(5, 1), "old"))
	if x := impl.StoreAdd(s, value(2, tagAt(5, 1), "new")); x.Vers[2].Text != "old" {
		t.Error(x)
	}
	if x := impl.StoreAdd(s, value(2, tagAt(5, 0), "new")); x.Vers[2].Text != "old" {
		t.Error(x)
	}
	if x := impl.StoreAdd(s, value(2, tagAt(5, 2), "new")); x.Vers[2].Text != "new" {
		t.Error(x)
	}
	gone := impl.Ver{Key: 2, Tag: tagAt(6, 0), Past: impl.PastNone(), Gone: true}
	if x := impl.StoreAdd(s, gone); !x.Vers[2].Gone || x.Vers[2].Text != "" {
		t.Error(x)
	}
	if x := impl.StoreAdd(impl.StoreAdd(s, gone), value(2, tagAt(7, 0), "")); x.Vers[2].Gone || x.Vers[2].Tag != tagAt(7, 0) {
		t.Error(x)
	}
}

func TestP9StoreAddDoesNotDependOnTheOrder(t *testing.T) {
	r := rand.New(rand.NewSource(4))
	for i := 0; i < 5000; i++ {
		s, v, w := someStore(r), someVer(r, r.Intn(impl.KeyMax)), someVer(r, r.Intn(impl.KeyMax))
		if v.Tag == w.Tag || v.Tag == s.Vers[v.Key].Tag || w.Tag == s.Vers[w.Key].Tag {
			continue
		}
		if !sameStore(impl.StoreAdd(impl.StoreAdd(s, v), w), impl.StoreAdd(impl.StoreAdd(s, w), v)) {
			t.Errorf("the order of %v and %v matters for %v", v, w, s)
		}
	}
}

func TestP9StoreAddOfInvalidIsZero(t *testing.T) {
	good := value(1, tagAt(9, 1), "a")
	for name, s := range badStores() {
		if x := impl.StoreAdd(s, good); len(x.Vers) != 0 {
			t.Errorf("%s: StoreAdd is %v", name, x)
		}
	}
	for name, v := range badVers() {
		if x := impl.StoreAdd(impl.StoreNew(), v); len(x.Vers) != 0 {
			t.Errorf("%s: StoreAdd is %v", name, x)
		}
	}
	if x := impl.StoreAdd(impl.StoreNew(), impl.Ver{}); len(x.Vers) != 0 {
		t.Errorf("StoreAdd of the zero Ver is %v", x)
	}
}

func TestP10StoreTagsAreTheTags(t *testing.T) {
	if !samePast(impl.StoreTags(impl.StoreNew()), impl.PastNone()) {
		t.Error("StoreTags of StoreNew is not PastNone")
	}
	for _, s := range storeList() {
		var want impl.Past
		for _, v := range s.Vers {
			want.Tags = append(want.Tags, v.Tag)
		}
		if !samePast(impl.StoreTags(s), want) {
			t.Errorf("StoreTags(%v) is %v", s, impl.StoreTags(s))
		}
	}
}

func TestP10StoreJoinJoinsTags(t *testing.T) {
	for _, a := range storeList() {
		for _, b := range storeList() {
			j := impl.StoreJoin(a, b)
			mustBeValid(t, j)
			for k := range j.Vers {
				want := a.Vers[k]
				if rank(b.Vers[k].Tag) > rank(want.Tag) {
					want = b.Vers[k]
				}
				if !sameVer(j.Vers[k], want) {
					t.Errorf("key %d of StoreJoin(%v, %v) is %v", k, a, b, j.Vers[k])
				}
			}
			if !samePast(impl.StoreTags(j), impl.PastJoin(impl.StoreTags(a), impl.StoreTags(b))) {
				t.Errorf("StoreJoin(%v, %v) has the tags %v", a, b, impl.StoreTags(j))
			}
		}
		if !sameStore(impl.StoreJoin(a, a), a) || !sameStore(impl.StoreJoin(a, impl.StoreNew()), a) || !sameStore(impl.StoreJoin(impl.StoreNew(), a), a) {
			t.Errorf("joining %v with itself or nothing changes it", a)
		}
	}
}

func TestP10StoreJoinOfEqualTagsTakesTheFirst(t *testing.T) {
	a := storeOf(value(0, tagAt(5, 1), "a"), value(3, tagAt(5, 1), "a"))
	b := storeOf(value(0, tagAt(5, 1), "b"), value(3, tagAt(5, 2), "b"))
	if j := impl.StoreJoin(a, b); j.Vers[0].Text != "a" || j.Vers[3].Text != "b" {
		t.Error(j)
	}
	if j := impl.StoreJoin(b, a); j.Vers[0].Text != "b" || j.Vers[3].Text != "b" {
		t.Error(j)
	}
}

func TestP10InvalidStoresGiveZero(t *testing.T) {
	good := storeOf(value(1, tagAt(9, 1), "a"))
	for name, s := range badStores() {
		if p := impl.StoreTags(s); len(p.Tags) != 0 {
			t.Errorf("%s: StoreTags is %v", name, p)
		}
		for _, j := range []impl.Store{impl.StoreJoin(good, s), impl.StoreJoin(s, good), impl.StoreJoin(s, s)} {
			if len(j.Vers) != 0 {
				t.Errorf("%s: StoreJoin is %v", name, j)
			}
		}
	}
}

func TestP11ClosedStoresHaveAllDependencies(t *testing.T) {
	open, closed := 0, 0
	for _, s := range storeList() {
		want := true
		for _, v := range s.Vers {
			for k, p := range v.Past.Tags {
				want = want && rank(p) <= rank(s.Vers[k].Tag)
			}
		}
		if impl.StoreClosed(s) != want {
			t.Errorf("StoreClosed(%v) is %v", s, !want)
		}
		if want {
			closed++
		} else {
			open++
		}
	}
	if open < 5 || closed < 5 {
		t.Errorf("%d open stores and %d closed ones", open, closed)
	}
	if !impl.StoreClosed(impl.StoreNew()) {
		t.Error("StoreNew is not closed")
	}
}

func TestP11StoreClosedEdges(t *testing.T) {
	v := impl.Ver{Key: 2, Tag: tagAt(5, 1), Past: pastOf(tagAt(4, 1), impl.Tag{}, tagAt(3, 1), impl.Tag{}), Text: "a"}
	for tag, want := range map[impl.Tag]bool{tagAt(3, 2): false, tagAt(4, 0): false, tagAt(4, 1): true, tagAt(4, 2): true, tagAt(9, 0): true} {
		if s := storeOf(v, value(0, tag, "b")); impl.StoreClosed(s) != want {
			t.Errorf("StoreClosed(%v) is %v", s, !want)
		}
	}
	if impl.StoreClosed(storeOf(v)) {
		t.Error("a dependency is missing")
	}
	if !impl.StoreClosed(storeOf(v, impl.Ver{Key: 0, Tag: tagAt(4, 1), Past: impl.PastNone(), Gone: true})) {
		t.Error("a tombstone is a dependency, too")
	}
}

func TestP11JoinOfClosedStoresIsClosed(t *testing.T) {
	for _, a := range storeList() {
		for _, b := range storeList() {
			if impl.StoreClosed(a) && impl.StoreClosed(b) && !impl.StoreClosed(impl.StoreJoin(a, b)) {
				t.Errorf("the join of %v and %v is not closed", a, b)
			}
		}
	}
}

func TestP11InvalidStoresAreNotClosed(t *testing.T) {
	for name, s := range badStores() {
		if impl.StoreClosed(s) {
			t.Errorf("%s: StoreClosed is true", name)
		}
	}
}
