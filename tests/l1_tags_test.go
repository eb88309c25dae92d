package tests

import (
	"fmt"
	"math/rand"
	"strings"
	"testing"

	"loop.example/confluence/impl"
)

func TestLimitsOfTags(t *testing.T) {
	if impl.TimeMax != 999 || impl.PlaceMax != 3 || impl.KeyMax != 4 {
		t.Error(impl.TimeMax, impl.PlaceMax, impl.KeyMax)
	}
}

func TestTagOk(t *testing.T) {
	valid := map[impl.Tag]bool{}
	for _, tag := range tagTexts() {
		valid[tag] = true
	}
	for time := -2; time <= 1002; time++ {
		for place := -2; place <= 5; place++ {
			if tag := tagAt(time, place); impl.TagOk(tag) != valid[tag] {
				t.Errorf("TagOk(%v) is %v", tag, !valid[tag])
			}
		}
	}
	for _, tag := range tagList() {
		if impl.TagOk(tag) != valid[tag] {
			t.Errorf("TagOk(%v) is %v", tag, !valid[tag])
		}
	}
}

func TestP1TagLessComparesTimeThenPlace(t *testing.T) {
	cases := []struct {
		a, b impl.Tag
		less bool
	}{
		{tagAt(1, 2), tagAt(2, 0), true},
		{tagAt(2, 0), tagAt(1, 2), false},
		{tagAt(1, 0), tagAt(1, 1), true},
		{tagAt(1, 1), tagAt(1, 0), false},
		{tagAt(1, 1), tagAt(1, 1), false},
		{impl.Tag{}, tagAt(1, 0), true},
		{impl.Tag{}, impl.Tag{}, false},
		{tagAt(-1, 9), impl.Tag{}, true},
		{tagAt(0, -1), impl.Tag{}, true},
		{tagAt(999, 2), tagAt(1000, -7), true},
	}
	for _, c := range cases {
		if impl.TagLess(c.a, c.b) != c.less {
			t.Errorf("TagLess(%v, %v) is %v", c.a, c.b, !c.less)
		}
	}
}

func TestP1TagLessIsStrictTotalOrder(t *testing.T) {
	list := tagList()
	for _, a := range list {
		for _, b := range list {
			if a == b && impl.TagLess(a, b) {
				t.Errorf("%v is less than itself", a)
			}
			if a != b && impl.TagLess(a, b) == impl.TagLess(b, a) {
				t.Errorf("%v and %v are not ordered", a, b)
			}
			for _, c := range list {
				if impl.TagLess(a, b) && impl.TagLess(b, c) && !impl.TagLess(a, c) {
					t.Errorf("not transitive: %v %v %v", a, b, c)
				}
			}
		}
	}
}

func TestP2TagMaxIsTheMaximum(t *testing.T) {
	if m := impl.TagMax(tagAt(3, 0), tagAt(2, 2)); m != tagAt(3, 0) {
		t.Error(m)
	}
	if m := impl.TagMax(impl.Tag{}, tagAt(-1, 5)); m != (impl.Tag{}) {
		t.Error(m)
	}
	for _, a := range tagList() {
		for _, b := range tagList() {
			m := impl.TagMax(a, b)
			if m != a && m != b {
				t.Errorf("TagMax(%v, %v) is %v", a, b, m)
			}
			if impl.TagLess(m, a) || impl.TagLess(m, b) {
				t.Errorf("TagMax(%v, %v) is %v, which is less", a, b, m)
			}
			if m != impl.TagMax(b, a) {
				t.Errorf("TagMax(%v, %v) is not symmetric", a, b)
			}
		}
	}
}

func TestP3TagGetInvertsTagPut(t *testing.T) {
	texts := tagTexts()
	for s, tag := range texts {
		if impl.TagPut(tag) != s {
			t.Errorf("TagPut(%v) is %q", tag, impl.TagPut(tag))
		}
		if x, ok := impl.TagGet(s); !ok || x != tag {
			t.Errorf("TagGet(%q) is %v, %v", s, x, ok)
		}
	}
	list := tagList()
	for time := -2; time <= 1002; time++ {
		for place := -2; place <= 5; place++ {
			list = append(list, tagAt(time, place))
		}
	}
	for _, tag := range list {
		if s := impl.TagPut(tag); (s == "") == impl.TagOk(tag) {
			t.Errorf("TagPut(%v) is %q", tag, s)
		}
	}
}

func TestP4TagEncodingIsCanonical(t *testing.T) {
	texts := tagTexts()
	list := []string{
		"", ".", "0", "0.0", "1", "1.", ".1", "01.0", "1.00", "00.0", "0.00", "0.1", "1.3", "1.10", "1.0.0", "1..0", "1,0",
		" 1.0", "1.0 ", "1 .0", "1.0\n", "-1.0", "1.-1", "-0.0", "0.-0", "+1.0", "1.+0", "1e2.0", "0x1.0", "1_0.0",
		"999.2", "1000.0", "999.3", "9999.0", "18446744073709551617.0", "1.18446744073709551616", "9223372036854775808.0",
		"\u0661.0", "\uff11.0", "1.0\x00", "\xff", strings.Repeat("1", 1000) + ".0", strings.Repeat("0", 1000) + "1.0", strings.Repeat(".", 1000),
	}
	for s := range texts {
		if len(s) < 4 || s[0] == '9' {
			list = append(list, neighbours(s)...)
		}
	}
	level := []string{""}
	for length := 1; length <= 4; length++ {
		var next []string
		for _, s := range level {
			for _, c := range "0129.-+ x" {
				next = append(next, s+string(c))
			}
		}
		list = append(list, next...)
		level = next
	}
	for _, s := range list {
		want, valid := texts[s]
		x, ok := impl.TagGet(s)
		if ok != valid || x != want {
			t.Errorf("TagGet(%q) is %v, %v", s, x, ok)
		}
		if ok && (impl.TagPut(x) != s || !impl.TagOk(x)) {
			t.Errorf("TagGet(%q) is %v, which is written %q", s, x, impl.TagPut(x))
		}
	}
}

func TestPastOk(t *testing.T) {
	zero := impl.Tag{}
	valid := []impl.Past{pastOf(zero, zero, zero, zero), pastOf(tagAt(999, 2), tagAt(999, 2), tagAt(1, 0), zero), impl.PastNone()}
	for _, p := range valid {
		if !impl.PastOk(p) {
			t.Errorf("PastOk(%v) is false", p)
		}
	}
	for _, p := range badPasts() {
		if impl.PastOk(p) {
			t.Errorf("PastOk(%v) is true", p)
		}
	}
}

func TestPastNoneIsZeroTags(t *testing.T) {
	if p := impl.PastNone(); !samePast(p, pastOf(impl.Tag{}, impl.Tag{}, impl.Tag{}, impl.Tag{})) {
		t.Error(p)
	}
}

// rank orders valid tags as the document does, without the program.
func rank(t impl.Tag) int {
	return t.Time*10 + t.Place
}

func pastList() []impl.Past {
	r := rand.New(rand.NewSource(1))
	list := []impl.Past{impl.PastNone(), pastOf(tagAt(999, 2), tagAt(999, 1), tagAt(998, 2), tagAt(1, 0))}
	for len(list) < 60 {
		list = append(list, somePast(r, 2), somePast(r, 999))
	}
	return list
}

func TestP5PastJoinIsTheLeastUpperBound(t *testing.T) {
	for _, a := range pastList() {
		for _, b := range pastList() {
			j := impl.PastJoin(a, b)
			if !impl.PastOk(j) {
				t.Fatalf("PastJoin(%v, %v) is invalid: %v", a, b, j)
			}
			for k := range j.Tags {
				want := a.Tags[k]
				if rank(b.Tags[k]) > rank(want) {
					want = b.Tags[k]
				}
				if j.Tags[k] != want {
					t.Errorf("PastJoin(%v, %v) is %v", a, b, j)
				}
			}
			if !impl.PastWithin(a, j) || !impl.PastWithin(b, j) {
				t.Errorf("%v or %v is not within %v", a, b, j)
			}
			if !samePast(j, impl.PastJoin(b, a)) {
				t.Errorf("PastJoin(%v, %v) is not symmetric", a, b)
			}
		}
		if !samePast(impl.PastJoin(a, a), a) {
			t.Errorf("PastJoin(%v, itself) is %v", a, impl.PastJoin(a, a))
		}
		if !samePast(impl.PastJoin(a, impl.PastNone()), a) || !samePast(impl.PastJoin(impl.PastNone(), a), a) {
			t.Errorf("PastNone is not neutral for %v", a)
		}
	}
}

func TestP5PastJoinOfInvalidIsZero(t *testing.T) {
	good := pastOf(tagAt(1, 0), tagAt(2, 1), impl.Tag{}, tagAt(4, 0))
	for _, bad := range badPasts() {
		for _, j := range []impl.Past{impl.PastJoin(good, bad), impl.PastJoin(bad, good), impl.PastJoin(bad, bad)} {
			if len(j.Tags) != 0 {
				t.Errorf("PastJoin with %v is %v", bad, j)
			}
		}
	}
}

func TestP6PastWithinIsTheOrderOfJoins(t *testing.T) {
	held := 0
	for i, a := range pastList() {
		for j, b := range pastList() {
			within := impl.PastWithin(a, b)
			want := true
			for k := range a.Tags {
				want = want && rank(a.Tags[k]) <= rank(b.Tags[k])
			}
			if within != want || within != samePast(impl.PastJoin(a, b), b) {
				t.Errorf("PastWithin(%v, %v) is %v", a, b, within)
			}
			if (within && impl.PastWithin(b, a)) != samePast(a, b) {
				t.Errorf("%v and %v are within each other", a, b)
			}
			if within && i != j {
				held++
			}
		}
		if !impl.PastWithin(impl.PastNone(), a) {
			t.Errorf("PastNone is not within %v", a)
		}
	}
	if held == 0 {
		t.Error("no pair of different vectors was within")
	}
}

func TestP6PastWithinLooksAtEachKey(t *testing.T) {
	b := pastOf(tagAt(2, 1), tagAt(2, 1), tagAt(2, 1), tagAt(2, 1))
	for k := 0; k < 4; k++ {
		for tag, want := range map[impl.Tag]bool{{}: true, tagAt(1, 2): true, tagAt(2, 0): true, tagAt(2, 1): true, tagAt(2, 2): false, tagAt(3, 0): false} {
			a := impl.PastNone()
			a.Tags[k] = tag
			if impl.PastWithin(a, b) != want {
				t.Error(fmt.Sprint("key ", k, ": PastWithin of ", tag, " is ", !want))
			}
		}
	}
}

func TestP6PastWithinOfInvalidIsFalse(t *testing.T) {
	good := pastOf(tagAt(999, 2), tagAt(999, 2), tagAt(999, 2), tagAt(999, 2))
	for _, bad := range badPasts() {
		if impl.PastWithin(bad, good) || impl.PastWithin(good, bad) || impl.PastWithin(impl.PastNone(), bad) || impl.PastWithin(bad, bad) {
			t.Errorf("PastWithin with %v is true", bad)
		}
	}
}
