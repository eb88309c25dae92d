package tests

import (
	"fmt"
	"maps"
	"math"
	"math/rand"
	"slices"

	"loop.example/confluence/impl"
)

func wrote(sess int, key int, tag impl.Tag) impl.Done {
	return impl.Done{Sess: sess, Kind: impl.DoneWrite, Key: key, Tag: tag}
}

func hasRead(sess int, key int, tag impl.Tag) impl.Done {
	return impl.Done{Sess: sess, Kind: impl.DoneRead, Key: key, Tag: tag}
}

func sure(sess int, key int, tag impl.Tag) impl.Done {
	return impl.Done{Sess: sess, Kind: impl.DoneSure, Key: key, Tag: tag}
}

// readsOfNothing is that many records that fit at any place where the client has seen nothing.
func readsOfNothing(sess int, n int) []impl.Done {
	var list []impl.Done
	for i := 0; i < n; i++ {
		list = append(list, hasRead(sess, i%4, impl.Tag{}))
	}
	return list
}

// someDone is a well-formed record; its tag is often one of the list, for the same key.
func someDone(r *rand.Rand, list []impl.Done) impl.Done {
	d := impl.Done{Sess: r.Intn(4), Kind: 1 + r.Intn(3), Key: r.Intn(4)}
	d.Tag = tagAt(1+r.Intn(2+len(list)), r.Intn(3))
	if d.Kind == impl.DoneRead && r.Intn(5) == 0 {
		d.Tag = impl.Tag{}
	}
	if d.Kind != impl.DoneWrite && len(list) > 0 && r.Intn(5) > 0 {
		old := list[r.Intn(len(list))]
		if old.Kind == impl.DoneWrite {
			d.Key, d.Tag = old.Key, old.Tag
		}
		if old.Kind == impl.DoneWrite && d.Kind == impl.DoneSure && r.Intn(5) > 0 {
			d.Sess = old.Sess
		}
	}
	return d
}

// someConsistent is a consistent history of that length, by the model.
func someConsistent(r *rand.Rand, length int) []impl.Done {
	var list []impl.Done
	for len(list) < length {
		next := append(slices.Clone(list), someDone(r, list))
		if _, far := accountModel(next); far == len(next) {
			list = next
		}
	}
	return list
}

// consistentList is consistent histories, of no record and of HistMax records also.
func consistentList() []([]impl.Done) {
	r := rand.New(rand.NewSource(37))
	list := [][]impl.Done{nil, {}, readsOfNothing(3, 80), someConsistent(r, 80), someConsistent(r, 79)}
	for i := 0; i < 60; i++ {
		list = append(list, someConsistent(r, r.Intn(40)))
	}
	for w := 0; w < 12; w++ {
		list = append(list, steppedWorld(int64(w), 1+w%4, 4, 150).Hist)
	}
	return list
}

// inconsistentList is histories that are well formed, and have a record that does not fit.
func inconsistentList() map[string][]impl.Done {
	a, b, c := tagAt(1, 0), tagAt(2, 1), tagAt(3, 0)
	list := map[string][]impl.Done{
		"a tag written twice":                    {wrote(0, 1, a), wrote(0, 1, a)},
		"a tag written twice for other keys":     {wrote(0, 1, a), wrote(0, 2, a)},
		"a tag written twice by others":          {wrote(0, 1, a), wrote(1, 1, a)},
		"a tag written before by a blind client": {wrote(0, 1, b), wrote(2, 3, a), wrote(1, 0, b)},
		"a read of what was never written":       {wrote(0, 1, a), hasRead(0, 1, b)},
		"a read before the write":                {hasRead(1, 1, a), wrote(0, 1, a)},
		"a read of another key":                  {wrote(0, 1, a), hasRead(1, 2, a)},
		"sure of what was never written":         {sure(0, 0, a)},
		"sure of another key":                    {wrote(0, 1, a), sure(0, 2, a)},
		"sure of another client's write":         {wrote(0, 1, a), sure(1, 1, a)},
		"sure of what it only read":              {wrote(0, 1, a), hasRead(1, 1, a), sure(1, 1, a)},
		"nothing read where a was read":          {wrote(0, 1, a), hasRead(1, 1, a), hasRead(1, 1, impl.Tag{})},
		"nothing read where it was sure":         {wrote(0, 1, a), sure(0, 1, a), hasRead(0, 1, impl.Tag{})},
		"an earlier one read":                    {wrote(0, 1, a), wrote(1, 1, b), hasRead(2, 1, b), hasRead(2, 1, a)},
		"an earlier one sure":                    {wrote(0, 1, a), wrote(1, 1, b), hasRead(0, 1, b), sure(0, 1, a)},
		"an earlier place read":                  {wrote(0, 1, tagAt(2, 0)), wrote(1, 1, b), hasRead(2, 1, b), hasRead(2, 1, tagAt(2, 0))},
		"a cause not seen":                       {wrote(0, 1, a), sure(0, 1, a), wrote(0, 2, b), hasRead(1, 2, b), hasRead(1, 1, impl.Tag{})},
		"a cause of a cause not seen":            {wrote(0, 1, a), sure(0, 1, a), wrote(0, 2, b), hasRead(1, 2, b), wrote(1, 3, c), hasRead(2, 3, c), hasRead(2, 1, impl.Tag{})},
		"a write at the time of what was read":   {wrote(0, 1, b), hasRead(1, 1, b), wrote(1, 2, tagAt(2, 2))},
		"a write before what was read":           {wrote(0, 1, b), hasRead(1, 1, b), wrote(1, 2, a)},
		"a write before what was sure":           {wrote(0, 1, c), sure(0, 1, c), wrote(0, 2, b)},
		"a write before a cause":                 {wrote(0, 1, a), sure(0, 1, a), wrote(0, 2, b), hasRead(1, 2, b), wrote(1, 0, tagAt(1, 2))},
	}
	for name, l := range maps.Clone(list) {
		list[name+", and more"] = append(slices.Clone(l), wrote(3, 3, tagAt(900, 2)), hasRead(3, 3, tagAt(900, 2)))
	}
	return list
}

// histList is well-formed histories of both kinds.
func histList() [][]impl.Done {
	r := rand.New(rand.NewSource(38))
	list := consistentList()
	for _, l := range inconsistentList() {
		list = append(list, l)
	}
	for i := 0; i < 200; i++ {
		l := someConsistent(r, r.Intn(12))
		for j := r.Intn(6); j > 0; j-- {
			l = append(l, someDone(r, l))
		}
		list = append(list, l)
	}
	return list
}

// badHists is lists that are not well formed, by what is wrong with them.
func badHists() map[string][]impl.Done {
	list := map[string][]impl.Done{"81 records": readsOfNothing(0, 81), "200 records": readsOfNothing(1, 200)}
	fault := func(name string, d impl.Done) {
		good := []impl.Done{wrote(0, 1, tagAt(1, 0)), hasRead(1, 1, tagAt(1, 0))}
		list[name+" alone"] = []impl.Done{d}
		list[name+" first"] = append([]impl.Done{d}, good...)
		list[name+" last"] = append(good, d)
		list[name+" as the 80th"] = append(readsOfNothing(2, 79), d)
	}
	for _, n := range []int{math.MinInt, -1, 4, 5, math.MaxInt} {
		fault(fmt.Sprint("sess ", n), hasRead(n, 0, impl.Tag{}))
		fault(fmt.Sprint("key ", n), hasRead(0, n, impl.Tag{}))
		fault(fmt.Sprint("kind ", n), impl.Done{Kind: n, Tag: tagAt(2, 0)})
	}
	fault("kind 0", impl.Done{Tag: tagAt(2, 0)})
	fault("zero record", impl.Done{})
	fault("zero tag written", wrote(0, 0, impl.Tag{}))
	fault("zero tag sure", sure(0, 0, impl.Tag{}))
	for _, tag := range []impl.Tag{tagAt(0, 1), tagAt(0, -1), tagAt(-1, 0), tagAt(1000, 0), tagAt(1, 3), tagAt(1, -1), tagAt(math.MaxInt, 0), tagAt(1, math.MinInt)} {
		fault(fmt.Sprint("written ", tag), wrote(0, 0, tag))
		fault(fmt.Sprint("read ", tag), hasRead(0, 0, tag))
		fault(fmt.Sprint("sure ", tag), sure(0, 0, tag))
	}
	return list
}

// histText is the encoding of a well-formed list, made without the program.
func histText(list []impl.Done) string {
	s := ""
	for _, d := range list {
		s += fmt.Sprintf("%d %s %d %d.%d\n", d.Sess, []string{"write", "read", "sure"}[d.Kind-1], d.Key, d.Tag.Time, d.Tag.Place)
	}
	return s
}

// without is a history without DoneRead and DoneSure of a client.
func without(list []impl.Done, sess int) []impl.Done {
	return slices.DeleteFunc(slices.Clone(list), func(d impl.Done) bool {
		return d.Sess == sess && d.Kind != impl.DoneWrite
	})
}
