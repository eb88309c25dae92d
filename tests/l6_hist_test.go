package tests

import (
	"math"
	"math/rand"
	"slices"
	"strings"
	"testing"

	"loop.example/confluence/impl"
)

func TestP37HistFarIsTheLongestConsistentPrefix(t *testing.T) {
	for _, list := range histList() {
		_, want := accountModel(list)
		far := impl.HistFar(list)
		if far != want || impl.HistOk(list) != (far == len(list)) {
			t.Fatalf("HistFar(%v) is %d instead of %d, HistOk is %v", list, far, want, impl.HistOk(list))
		}
		if !impl.HistOk(list[:far]) {
			t.Errorf("the first %d of %v do not fit", far, list)
		}
		if far < len(list) && impl.HistOk(list[:far+1]) {
			t.Errorf("the first %d of %v fit", far+1, list)
		}
	}
}

func TestP37EachRecordThatDoesNotFit(t *testing.T) {
	for name, list := range inconsistentList() {
		if impl.HistOk(list) {
			t.Errorf("%s: HistOk(%v) is true", name, list)
		}
	}
	// The first record that does not fit is the last one of the shorter lists.
	for name, list := range inconsistentList() {
		if name == "a read before the write" || strings.HasSuffix(name, ", and more") {
			continue
		}
		if far := impl.HistFar(list); far != len(list)-1 {
			t.Errorf("%s: HistFar(%v) is %d", name, list, far)
		}
	}
}

func TestP37RecordsThatFit(t *testing.T) {
	a, b := tagAt(1, 0), tagAt(1, 1)
	for name, list := range map[string][]impl.Done{
		"a write that its client has not seen":     {wrote(0, 1, a), hasRead(0, 1, impl.Tag{})},
		"a client that did not see its writes":     {wrote(0, 1, tagAt(5, 0)), wrote(0, 2, tagAt(4, 0))},
		"others at the same time":                  {wrote(0, 1, a), wrote(1, 1, b), hasRead(2, 1, a), hasRead(2, 1, b)},
		"nothing read of another key":              {wrote(0, 1, a), sure(0, 1, a), hasRead(0, 2, impl.Tag{})},
		"the same read again":                      {wrote(0, 1, a), hasRead(1, 1, a), hasRead(1, 1, a)},
		"sure twice":                               {wrote(0, 1, a), sure(0, 1, a), sure(0, 1, a)},
		"the last time":                            {wrote(3, 3, tagAt(998, 2)), sure(3, 3, tagAt(998, 2)), wrote(3, 3, tagAt(999, 0))},
		"a cause that was replaced by a later one": {wrote(0, 1, a), sure(0, 1, a), wrote(0, 2, tagAt(2, 0)), wrote(1, 1, tagAt(3, 1)), hasRead(2, 1, tagAt(3, 1)), hasRead(2, 2, tagAt(2, 0)), hasRead(2, 1, tagAt(3, 1))},
	} {
		if !impl.HistOk(list) || impl.HistFar(list) != len(list) {
			t.Errorf("%s: HistFar(%v) is %d", name, list, impl.HistFar(list))
		}
	}
	if !impl.HistOk(nil) || impl.HistFar([]impl.Done{}) != 0 {
		t.Error("the empty history fits")
	}
}

func TestP37ListsThatAreNotWellFormed(t *testing.T) {
	for name, list := range badHists() {
		if impl.HistOk(list) || impl.HistFar(list) != -1 {
			t.Errorf("%s: HistFar(%v) is %d", name, list, impl.HistFar(list))
		}
		for sess := -1; sess <= 4; sess++ {
			if p := impl.HistSees(list, sess); p.Tags != nil {
				t.Errorf("%s: HistSees is %v", name, p)
			}
		}
	}
	// A list that is not well formed is told before a record that does not fit.
	both := []impl.Done{hasRead(0, 0, tagAt(1, 0)), hasRead(4, 0, impl.Tag{})}
	if far := impl.HistFar(both); far != -1 {
		t.Error(far)
	}
}

func TestP38AViewNeverShrinks(t *testing.T) {
	for _, list := range consistentList() {
		var last [4]impl.Past
		for n := 0; n <= len(list); n++ {
			m, _ := accountModel(list[:n])
			for sess := 0; sess < 4; sess++ {
				view := impl.HistSees(list[:n], sess)
				if !samePast(view, m.view(sess)) {
					t.Fatalf("HistSees(%v, %d) is %v instead of %v", list[:n], sess, view, m.view(sess))
				}
				if n > 0 && !impl.PastWithin(last[sess], view) {
					t.Errorf("the view of %d shrinks from %v to %v: %v", sess, last[sess], view, list[:n])
				}
				last[sess] = view
			}
		}
		for _, d := range list {
			if d.Kind != impl.DoneWrite && impl.TagLess(last[d.Sess].Tags[d.Key], d.Tag) {
				t.Errorf("the view %v of %d is earlier than %v", last[d.Sess], d.Sess, d)
			}
		}
	}
}

func TestP38ViewsThatThereAreNot(t *testing.T) {
	good := []impl.Done{wrote(0, 1, tagAt(1, 0)), sure(0, 1, tagAt(1, 0))}
	if p := impl.HistSees(good, 0); !samePast(p, pastOf(impl.Tag{}, tagAt(1, 0), impl.Tag{}, impl.Tag{})) {
		t.Error(p)
	}
	if p := impl.HistSees(good, 3); !samePast(p, impl.PastNone()) {
		t.Error(p)
	}
	for _, sess := range []int{math.MinInt, -1, 4, 5, math.MaxInt} {
		if p := impl.HistSees(good, sess); p.Tags != nil {
			t.Errorf("HistSees of client %d is %v", sess, p)
		}
	}
	for name, list := range inconsistentList() {
		for sess := 0; sess < 4; sess++ {
			if p := impl.HistSees(list, sess); p.Tags != nil {
				t.Errorf("%s: HistSees of client %d is %v", name, sess, p)
			}
		}
	}
}

func TestP39ReadsOfOneClientDoNotAffectOthers(t *testing.T) {
	for _, list := range consistentList() {
		for sess := 0; sess < 4; sess++ {
			less := without(list, sess)
			if !impl.HistOk(less) {
				t.Errorf("without reads of %d, %v does not fit", sess, list)
			}
			if p := impl.HistSees(less, sess); !samePast(p, impl.PastNone()) {
				t.Errorf("without reads of %d, it sees %v", sess, p)
			}
		}
	}
}

func TestP39OnlyTheClientItselfSees(t *testing.T) {
	list := []impl.Done{wrote(0, 1, tagAt(1, 0)), sure(0, 1, tagAt(1, 0)), wrote(2, 2, tagAt(1, 2)), hasRead(1, 2, tagAt(1, 2))}
	for sess, want := range []impl.Past{
		pastOf(impl.Tag{}, tagAt(1, 0), impl.Tag{}, impl.Tag{}),
		pastOf(impl.Tag{}, impl.Tag{}, tagAt(1, 2), impl.Tag{}),
		impl.PastNone(),
		impl.PastNone(),
	} {
		if p := impl.HistSees(list, sess); !samePast(p, want) {
			t.Errorf("client %d sees %v", sess, p)
		}
	}
}

func TestP40DecodingAHistoryInvertsEncoding(t *testing.T) {
	for _, list := range histList() {
		text := impl.HistPut(list)
		if text != histText(list) {
			t.Fatalf("HistPut(%v) is %q", list, text)
		}
		back, ok := impl.HistGet(text)
		if !ok || !slices.Equal(back, list) {
			t.Errorf("HistGet(%q) is %v, %v", text, back, ok)
		}
	}
	for name, list := range badHists() {
		if text := impl.HistPut(list); text != "" {
			t.Errorf("%s: HistPut(%v) is %q", name, list, text)
		}
	}
}

func TestP40AllRecords(t *testing.T) {
	for sess := 0; sess < 4; sess++ {
		for kind := 1; kind <= 3; kind++ {
			for key := 0; key < 4; key++ {
				for _, tag := range []impl.Tag{{}, tagAt(1, 0), tagAt(10, 2), tagAt(999, 1)} {
					d := impl.Done{Sess: sess, Kind: kind, Key: key, Tag: tag}
					if kind != impl.DoneRead && tag.Time == 0 {
						continue
					}
					text := histText([]impl.Done{d})
					if back, ok := impl.HistGet(text); !ok || !slices.Equal(back, []impl.Done{d}) || impl.HistPut(back) != text {
						t.Errorf("HistGet(%q) is %v, %v", text, back, ok)
					}
				}
			}
		}
	}
	if list, ok := impl.HistGet(""); !ok || len(list) != 0 {
		t.Error(list, ok)
	}
}

// mustBeCanonical holds what HistGet says of any string against the encoding.
func mustBeCanonical(t *testing.T, s string) {
	t.Helper()
	list, ok := impl.HistGet(s)
	if !ok {
		if list != nil {
			t.Errorf("HistGet(%q) is %v, false", s, list)
		}
		return
	}
	if impl.HistPut(list) != s || histText(list) != s || len(list) > 80 {
		t.Errorf("HistGet(%q) is %v, true", s, list)
	}
}

func TestP41TheEncodingOfHistoriesIsCanonical(t *testing.T) {
	for _, text := range []string{"", "0 write 1 1.0\n", "3 read 3 0.0\n", "1 sure 2 999.2\n0 read 0 10.1\n"} {
		if _, ok := impl.HistGet(text); !ok {
			t.Errorf("HistGet(%q) fails", text)
		}
		for _, s := range neighbours(text) {
			mustBeCanonical(t, s)
		}
	}
	r := rand.New(rand.NewSource(41))
	for i := 0; i < 20000; i++ {
		s := ""
		for j := r.Intn(12); j > 0; j-- {
			s += []string{"0", "1", "4", " ", " ", "write", "read", "sure", "1.0", "0.0", "\n", "\n", "-", "+", "\r"}[r.Intn(15)]
		}
		mustBeCanonical(t, s)
	}
}

func TestP41TextsThatAreNoHistory(t *testing.T) {
	good := "0 write 1 1.0\n"
	bad := []string{
		"0 write 1 1.0", good + "0 read 1 1.0", good + "\n", "\n" + good, "\n", " ", " \n", "   \n", good + " ",
		"0 write 1 1.0 \n", " 0 write 1 1.0\n", "0  write 1 1.0\n", "0 write  1 1.0\n", "0 write 1  1.0\n", "0\twrite 1 1.0\n",
		"+0 write 1 1.0\n", "-0 write 1 1.0\n", "0 write +1 1.0\n", "0 write -1 1.0\n", "0 write 1 +1.0\n", "0 write 1 -1.0\n", "0 write 1 1.+0\n",
		"00 write 1 1.0\n", "0 write 01 1.0\n", "0 write 1 01.0\n", "0 write 1 1.00\n", "0 write 001 1.0\n",
		"4 write 1 1.0\n", "-1 write 1 1.0\n", "0 write 4 1.0\n", "0 write 1 1.3\n", "0 write 1 1000.0\n", "0 write 1 0.0\n", "0 sure 1 0.0\n", "0 read 1 0.1\n",
		"0 wrote 1 1.0\n", "0 Write 1 1.0\n", "0 1 1 1.0\n", "0  1 1.0\n", "0 1 1.0\n", "0 write 1\n", "0 write 1 1\n", "0 write 1 1.0 1\n", "write 1 1.0\n",
		"0 write 1 1.0\r\n", "0 write 1 1.0\x00\n", "\x00", "99999999999999999999 write 1 1.0\n", "0 write 1 1.0;0 read 1 1.0\n",
	}
	for _, s := range bad {
		if list, ok := impl.HistGet(s); ok || list != nil {
			t.Errorf("HistGet(%q) is %v, %v", s, list, ok)
		}
		if list, ok := impl.HistGet(good + s); ok || list != nil {
			t.Errorf("HistGet(%q) is %v, %v", good+s, list, ok)
		}
	}
}

func TestP41AtMostHistMaxRecords(t *testing.T) {
	line := "0 read 1 0.0\n"
	for n, want := range map[int]bool{79: true, 80: true, 81: false, 200: false} {
		list, ok := impl.HistGet(strings.Repeat(line, n))
		if ok != want || ok && len(list) != n || !ok && list != nil {
			t.Errorf("%d records: %v, %v", n, list, ok)
		}
	}
	// What follows the last record that is allowed is wrong in any case.
	if _, ok := impl.HistGet(strings.Repeat(line, 80) + "x"); ok {
		t.Error("80 records and more")
	}
}

func TestP73ReadingAgainIsConsistent(t *testing.T) {
	for _, list := range consistentList() {
		if len(list) == 80 {
			list = list[:79]
		}
		for sess := 0; sess < 4; sess++ {
			view := impl.HistSees(list, sess)
			for key := 0; key < 4; key++ {
				more := append(slices.Clone(list), hasRead(sess, key, view.Tags[key]))
				if !impl.HistOk(more) {
					t.Errorf("%v does not fit", more)
				}
				for other := 0; other < 4; other++ {
					if !samePast(impl.HistSees(more, other), impl.HistSees(list, other)) {
						t.Errorf("%v changes the view of %d", more, other)
					}
				}
			}
		}
	}
}
