package tests

import (
	"math/rand"
	"slices"
	"testing"

	"loop.example/confluence/impl"
)

// guardCase is a history, and whether a guard holds for it.
type guardCase struct {
	list []impl.Done
	want bool
}

// looseHist is a well-formed history that takes no care of what was written. It has few
// tags and keys, so that each guard holds for some of them.
func looseHist(r *rand.Rand, length int) []impl.Done {
	var list []impl.Done
	for len(list) < length {
		d := impl.Done{Sess: r.Intn(4), Kind: 1 + r.Intn(3), Key: r.Intn(2), Tag: tagAt(1+r.Intn(3), r.Intn(2))}
		if d.Kind == impl.DoneRead && r.Intn(4) == 0 {
			d.Tag = impl.Tag{}
		}
		list = append(list, d)
	}
	return list
}

// writesFirst is writes of all tags that a loose history may have.
func writesFirst() []impl.Done {
	var list []impl.Done
	for i := 0; i < 12; i++ {
		list = append(list, wrote(i%4, i%2, tagAt(1+i/4, i/2%2)))
	}
	return list
}

// guardList is well-formed histories for which the guards hold, and for which they do not.
func guardList() [][]impl.Done {
	r := rand.New(rand.NewSource(57))
	list := histList()
	for i := 0; i < 900; i++ {
		list = append(list, looseHist(r, r.Intn(12)), append(writesFirst(), looseHist(r, r.Intn(12))...))
	}
	for i := 0; i < 20; i++ {
		list = append(list, looseHist(r, 60+i))
	}
	return append(list, looseHist(r, 80))
}

func TestGuardsAreWhatTheRecordsSay(t *testing.T) {
	count := map[verdicts]int{}
	for _, list := range guardList() {
		got, want := guardsOf(list), guardModel(list)
		if got != want {
			t.Fatalf("the guards of %v are %v instead of %v", list, got, want)
		}
		count[got]++
	}
	if len(count) != 16 {
		t.Error("not all cases are there:", count)
	}
}

func TestGuardsOfListsThatAreNotWellFormed(t *testing.T) {
	for name, list := range badHists() {
		if got := guardsOf(list); got != (verdicts{}) {
			t.Errorf("%s: the guards are %v", name, got)
		}
		for sess := -1; sess <= 4; sess++ {
			if only := impl.GuardOnly(list, sess); only != nil {
				t.Errorf("%s: GuardOnly of %d is %v", name, sess, only)
			}
		}
	}
	for _, list := range [][]impl.Done{nil, {}, readsOfNothing(0, 80)} {
		if got := guardsOf(list); got != (verdicts{true, true, true, true}) {
			t.Errorf("the guards of %v are %v", list, got)
		}
	}
}

func TestP57ConsistentHistoriesSatisfyAllGuarantees(t *testing.T) {
	for _, list := range append(causeList(), storyWorld().Hist) {
		if !impl.HistOk(list) {
			t.Fatalf("%v does not fit", list)
		}
		if got := guardsOf(list); got != (verdicts{true, true, true, true}) {
			t.Errorf("the guards of %v are %v", list, got)
		}
	}
	for _, w := range played(57, 60) {
		if got := guardsOf(w.Hist); got != (verdicts{true, true, true, true}) {
			t.Errorf("the guards of %v are %v", w.Hist, got)
		}
	}
}

func TestP57WhatWasWritten(t *testing.T) {
	a, b := tagAt(1, 0), tagAt(1, 1)
	for name, x := range map[string]guardCase{
		"nothing read":                    {[]impl.Done{hasRead(0, 1, impl.Tag{})}, true},
		"read what was written":           {[]impl.Done{wrote(0, 1, a), hasRead(1, 1, a)}, true},
		"sure of its own":                 {[]impl.Done{wrote(0, 1, a), sure(0, 1, a)}, true},
		"sure of another client's":        {[]impl.Done{wrote(0, 1, a), sure(1, 1, a)}, true},
		"read again":                      {[]impl.Done{wrote(0, 1, a), hasRead(1, 1, a), wrote(2, 2, b), hasRead(3, 1, a)}, true},
		"never written":                   {[]impl.Done{hasRead(0, 1, a)}, false},
		"sure of what was never written":  {[]impl.Done{sure(0, 1, a)}, false},
		"written for another key":         {[]impl.Done{wrote(0, 2, a), hasRead(0, 1, a)}, false},
		"sure of another key":             {[]impl.Done{wrote(0, 2, a), sure(0, 1, a)}, false},
		"written for both keys":           {[]impl.Done{wrote(0, 2, a), wrote(0, 1, a), hasRead(0, 1, a), hasRead(1, 2, a)}, true},
		"written only later":              {[]impl.Done{hasRead(0, 1, a), wrote(0, 1, a)}, false},
		"sure before it is written":       {[]impl.Done{sure(0, 1, a), wrote(0, 1, a)}, false},
		"the same time at another place":  {[]impl.Done{wrote(0, 1, a), hasRead(0, 1, b)}, false},
		"read before, which is no write":  {[]impl.Done{hasRead(0, 1, a), hasRead(0, 1, a)}, false},
		"the last record only":            {[]impl.Done{wrote(0, 1, a), hasRead(0, 1, a), hasRead(0, 1, b)}, false},
		"the first record only":           {[]impl.Done{hasRead(0, 1, b), wrote(0, 1, a), hasRead(0, 1, a)}, false},
		"written twice, which is no read": {[]impl.Done{wrote(0, 1, a), wrote(1, 1, a)}, true},
	} {
		if got := impl.GuardWritten(x.list); got != x.want {
			t.Errorf("%s: GuardWritten(%v) is %v", name, x.list, got)
		}
	}
}

// mustHoldByClient checks that a guard holds exactly if it holds for each client alone.
func mustHoldByClient(t *testing.T, guard func(list []impl.Done) bool) {
	t.Helper()
	count := map[bool]int{}
	for _, list := range guardList() {
		each := true
		for sess := 0; sess < 4; sess++ {
			each = each && guard(impl.GuardOnly(list, sess))
		}
		got := guard(list)
		if got != each {
			t.Errorf("the guard is %v for %v, for each client alone %v", got, list, each)
		}
		count[got]++
	}
	if count[true] < 100 || count[false] < 100 {
		t.Error("too few histories:", count)
	}
}

// readsBehind is what a client reads of key 1 behind a record that says it has seen c.
func readsBehind(first impl.Done) map[string]guardCase {
	c := tagAt(5, 1)
	return map[string]guardCase{
		"the same":                    {[]impl.Done{first, hasRead(0, 1, c)}, true},
		"a later one":                 {[]impl.Done{first, hasRead(0, 1, tagAt(5, 2)), hasRead(0, 1, tagAt(6, 0))}, true},
		"an earlier one":              {[]impl.Done{first, hasRead(0, 1, tagAt(4, 2))}, false},
		"an earlier place":            {[]impl.Done{first, hasRead(0, 1, tagAt(5, 0))}, false},
		"nothing":                     {[]impl.Done{first, hasRead(0, 1, impl.Tag{})}, false},
		"an earlier one before":       {[]impl.Done{hasRead(0, 1, tagAt(4, 0)), first}, true},
		"another client's":            {[]impl.Done{first, hasRead(1, 1, tagAt(4, 0))}, true},
		"another key":                 {[]impl.Done{first, hasRead(0, 2, tagAt(4, 0))}, true},
		"sure of an earlier one":      {[]impl.Done{first, sure(0, 1, tagAt(4, 0))}, true},
		"an earlier one written":      {[]impl.Done{first, wrote(0, 1, tagAt(4, 0))}, true},
		"others between":              {[]impl.Done{first, wrote(0, 1, c), hasRead(1, 1, c), hasRead(0, 2, c), hasRead(0, 1, tagAt(4, 0))}, false},
		"the last one of many":        {append([]impl.Done{first}, append(readsOfNothing(2, 78), hasRead(0, 1, tagAt(5, 0)))...), false},
		"all of many":                 {append([]impl.Done{first}, append(readsOfNothing(2, 78), hasRead(0, 1, c))...), true},
		"an earlier one, then itself": {[]impl.Done{first, hasRead(0, 1, tagAt(4, 0)), hasRead(0, 1, c)}, false},
	}
}

func TestP58MonotonicReadsAreAMatterOfEachClient(t *testing.T) {
	mustHoldByClient(t, impl.GuardReads)
	for name, x := range readsBehind(hasRead(0, 1, tagAt(5, 1))) {
		if got := impl.GuardReads(x.list); got != x.want {
			t.Errorf("%s: GuardReads(%v) is %v", name, x.list, got)
		}
		// What a client was sure of, or wrote, is nothing that it read.
		for _, first := range []impl.Done{sure(0, 1, tagAt(5, 1)), wrote(0, 1, tagAt(5, 1))} {
			list := slices.Clone(x.list)
			list[slices.Index(list, hasRead(0, 1, tagAt(5, 1)))] = first
			if got, want := impl.GuardReads(list), guardModel(list).reads; got != want {
				t.Errorf("%s: GuardReads(%v) is %v", name, list, got)
			}
		}
	}
	if !impl.GuardReads([]impl.Done{sure(0, 1, tagAt(5, 1)), hasRead(0, 1, impl.Tag{})}) || !impl.GuardReads([]impl.Done{wrote(0, 1, tagAt(5, 1)), hasRead(0, 1, impl.Tag{})}) {
		t.Error("only reads count")
	}
}

func TestP59ReadYourWritesIsAMatterOfEachClient(t *testing.T) {
	mustHoldByClient(t, impl.GuardOwn)
	for name, x := range readsBehind(sure(0, 1, tagAt(5, 1))) {
		if got := impl.GuardOwn(x.list); got != x.want {
			t.Errorf("%s: GuardOwn(%v) is %v", name, x.list, got)
		}
	}
	for _, list := range [][]impl.Done{
		{hasRead(0, 1, tagAt(5, 1)), hasRead(0, 1, tagAt(4, 0))},
		{wrote(0, 1, tagAt(5, 1)), hasRead(0, 1, impl.Tag{})},
		{wrote(0, 1, tagAt(5, 1)), hasRead(0, 1, impl.Tag{}), sure(0, 1, tagAt(5, 1))},
	} {
		if !impl.GuardOwn(list) {
			t.Errorf("GuardOwn(%v) is false", list)
		}
	}
}

func TestP59ItHoldsForPrefixes(t *testing.T) {
	for _, list := range guardList() {
		holds := true
		for n := 0; n <= len(list); n++ {
			now := impl.GuardOwn(list[:n])
			if now && !holds {
				t.Errorf("GuardOwn holds for %v, but not for one record less", list[:n])
			}
			holds = now
		}
	}
}

func TestP60WritesFollowReadsIsAMatterOfEachClient(t *testing.T) {
	mustHoldByClient(t, impl.GuardFollow)
	for _, first := range []impl.Done{hasRead(0, 1, tagAt(5, 1)), sure(0, 1, tagAt(5, 1))} {
		for name, x := range map[string]guardCase{
			"later":                {[]impl.Done{first, wrote(0, 1, tagAt(6, 0))}, true},
			"the same time":        {[]impl.Done{first, wrote(0, 1, tagAt(5, 2))}, false},
			"the same tag":         {[]impl.Done{first, wrote(0, 1, tagAt(5, 1))}, false},
			"earlier":              {[]impl.Done{first, wrote(0, 1, tagAt(4, 2))}, false},
			"earlier, another key": {[]impl.Done{first, wrote(0, 3, tagAt(4, 2))}, false},
			"by another client":    {[]impl.Done{first, wrote(1, 1, tagAt(4, 2))}, true},
			"before":               {[]impl.Done{wrote(0, 1, tagAt(4, 2)), first}, true},
			"an earlier read last": {[]impl.Done{first, hasRead(0, 2, tagAt(1, 0)), wrote(0, 0, tagAt(3, 0))}, false},
			"others between":       {[]impl.Done{first, wrote(0, 1, tagAt(7, 0)), hasRead(1, 1, tagAt(9, 0)), wrote(0, 2, tagAt(6, 0))}, true},
		} {
			if got := impl.GuardFollow(x.list); got != x.want {
				t.Errorf("%s: GuardFollow(%v) is %v", name, x.list, got)
			}
		}
	}
	if !impl.GuardFollow([]impl.Done{wrote(0, 1, tagAt(9, 0)), wrote(0, 1, tagAt(2, 0)), hasRead(0, 2, impl.Tag{}), wrote(0, 3, tagAt(1, 0))}) {
		t.Error("writes, and reads of nothing, call for no time")
	}
}

func TestP60ItHoldsWithoutWrites(t *testing.T) {
	for _, list := range guardList() {
		rest := slices.DeleteFunc(slices.Clone(list), func(d impl.Done) bool { return d.Kind == impl.DoneWrite })
		if !impl.GuardFollow(rest) {
			t.Errorf("GuardFollow(%v) is false", rest)
		}
	}
}

func TestP61GuardOnlyPartitionsAHistory(t *testing.T) {
	for _, list := range guardList() {
		sum := 0
		for sess := 0; sess < 4; sess++ {
			only := impl.GuardOnly(list, sess)
			sum += len(only)
			if !slices.Equal(only, onlyModel(list, sess)) {
				t.Errorf("GuardOnly(%v, %d) is %v", list, sess, only)
			}
			for other := 0; other < 4; other++ {
				again := impl.GuardOnly(only, other)
				if sess == other && !slices.Equal(again, only) || sess != other && len(again) > 0 {
					t.Errorf("of %v of client %d, %v is of client %d", only, sess, again, other)
				}
			}
		}
		if sum != len(list) {
			t.Errorf("the clients did %d of %v", sum, list)
		}
		for _, sess := range extremes() {
			if only := impl.GuardOnly(list, sess); (sess < 0 || sess > 3) && len(only) > 0 {
				t.Errorf("GuardOnly(%v, %d) is %v", list, sess, only)
			}
		}
	}
}

func TestP61ClientsWithoutRecords(t *testing.T) {
	list := []impl.Done{wrote(1, 0, tagAt(1, 0)), hasRead(3, 0, tagAt(1, 0)), sure(1, 0, tagAt(1, 0))}
	for sess, want := range [][]impl.Done{nil, {list[0], list[2]}, nil, {list[1]}} {
		if only := impl.GuardOnly(list, sess); !slices.Equal(only, want) {
			t.Errorf("GuardOnly of %d is %v", sess, only)
		}
	}
	for sess := 0; sess < 4; sess++ {
		if only := impl.GuardOnly(nil, sess); len(only) > 0 {
			t.Error(only)
		}
	}
}
