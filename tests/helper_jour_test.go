package tests

import (
	"fmt"
	"math"
	"math/rand"
	"reflect"
	"testing"

	"loop.example/confluence/impl"
)

func writeRec(key int, text string, past impl.Past) impl.Rec {
	return impl.Rec{Kind: impl.EventWrite, Ver: impl.Ver{Key: key, Past: past, Text: text}}
}

func numRec(kind int, num int) impl.Rec {
	return impl.Rec{Kind: kind, Num: num}
}

func hearRec(from int, at int, v impl.Ver) impl.Rec {
	return impl.Rec{Kind: impl.EventHear, At: at, Num: from, Ver: v}
}

func sameRec(a impl.Rec, b impl.Rec) bool {
	return a.Kind == b.Kind && a.At == b.At && a.Num == b.Num && sameVer(a.Ver, b.Ver)
}

// stepRecs is the records that have at most a number, with each number that there is.
func stepRecs() []impl.Rec {
	list := []impl.Rec{{Kind: impl.EventJoin}, {Kind: impl.EventJoin, Ver: impl.Ver{Past: impl.Past{Tags: []impl.Tag{}}}}}
	for n := 0; n < 4; n++ {
		list = append(list, numRec(impl.EventPass, n), numRec(impl.EventFall, n))
	}
	for n := 0; n < 3; n++ {
		list = append(list, numRec(impl.EventTake, n))
	}
	return list
}

// recList has valid records of each kind with all edges that the document names.
func recList() []impl.Rec {
	list := stepRecs()
	late := tagAt(999, 2)
	for _, text := range []string{";", "a;", ";;;;;;;;", "=", "-", "join", "1;2;3", "12345678"} {
		list = append(list, writeRec(3, text, pastOf(late, impl.Tag{}, tagAt(1, 0), late)), hearRec(1, 9, value(0, tagAt(1, 1), text)))
	}
	for i, v := range verList() {
		list = append(list, hearRec(i%3, []int{0, 1, 9, 10, 58, 59}[i%6], v), hearRec(v.Tag.Place, 0, v))
		v.Tag = impl.Tag{}
		list = append(list, impl.Rec{Kind: impl.EventWrite, Ver: v})
	}
	for at := 0; at < 60; at++ {
		list = append(list, hearRec(2, at, tombstone(3, late)))
	}
	return list
}

// badRecs is invalid records by what is wrong with them.
func badRecs() map[string]impl.Rec {
	list := map[string]impl.Rec{}
	for _, kind := range []int{math.MinInt, -1, 0, 2, 3, 4, 5, 10, 12, 13, 14, math.MaxInt} {
		list[fmt.Sprint("kind ", kind)] = impl.Rec{Kind: kind}
		list[fmt.Sprint("kind and version ", kind)] = impl.Rec{Kind: kind, Ver: value(1, tagAt(1, 1), "a")}
		list[fmt.Sprint("kind and write ", kind)] = impl.Rec{Kind: kind, Ver: impl.Ver{Past: impl.PastNone()}}
	}
	for kind, most := range map[int]int{impl.EventPass: 3, impl.EventFall: 3, impl.EventTake: 2, impl.EventJoin: 0} {
		for _, n := range []int{math.MinInt, -1, most + 1, most + 2, math.MaxInt} {
			list[fmt.Sprint("kind ", kind, " of ", n)] = numRec(kind, n)
		}
		for _, at := range []int{math.MinInt, -1, 1, math.MaxInt} {
			list[fmt.Sprint("kind ", kind, " at ", at)] = impl.Rec{Kind: kind, At: at}
		}
		for name, v := range nearZeroVers() {
			list[fmt.Sprint("kind ", kind, " with ", name)] = impl.Rec{Kind: kind, Ver: v}
		}
		list[fmt.Sprint("kind ", kind, " with a version")] = impl.Rec{Kind: kind, Ver: value(1, tagAt(1, 1), "a")}
	}
	addBadWrites(list)
	addBadHears(list)
	return list
}

func addBadWrites(list map[string]impl.Rec) {
	change := func(name string, f func(r *impl.Rec)) {
		r := writeRec(2, "a", pastOf(tagAt(4, 2), tagAt(1, 0), impl.Tag{}, tagAt(999, 0)))
		f(&r)
		list["write "+name] = r
	}
	for _, n := range []int{math.MinInt, -1, 1, math.MaxInt} {
		change(fmt.Sprint("at ", n), func(r *impl.Rec) { r.At = n })
		change(fmt.Sprint("num ", n), func(r *impl.Rec) { r.Num = n })
	}
	for _, n := range []int{math.MinInt, -1, 4, 5, math.MaxInt} {
		change(fmt.Sprint("key ", n), func(r *impl.Rec) { r.Ver.Key = n })
	}
	for _, tag := range []impl.Tag{tagAt(1000, 0), tagAt(999, 2), tagAt(1, 0), tagAt(0, 1), tagAt(0, -1), tagAt(-1, 0)} {
		change(fmt.Sprint("tag ", tag), func(r *impl.Rec) { r.Ver.Tag = tag })
	}
	for i, p := range badPasts() {
		change(fmt.Sprint("past ", i), func(r *impl.Rec) { r.Ver.Past = p })
	}
	for i, text := range badKeys() {
		change(fmt.Sprint("text ", i), func(r *impl.Rec) { r.Ver.Text = text })
		change(fmt.Sprint("gone text ", i), func(r *impl.Rec) { r.Ver.Text, r.Ver.Gone = text, true })
	}
	change("gone with text", func(r *impl.Rec) { r.Ver.Gone = true })
	change("zero version", func(r *impl.Rec) { r.Ver = impl.Ver{} })
}

func addBadHears(list map[string]impl.Rec) {
	v := value(2, tagAt(5, 1), "a")
	for _, n := range []int{math.MinInt, -1, 3, 4, math.MaxInt} {
		list[fmt.Sprint("hear from ", n)] = hearRec(n, 0, v)
	}
	for _, n := range []int{math.MinInt, -1, 60, 61, math.MaxInt} {
		list[fmt.Sprint("hear at ", n)] = hearRec(1, n, v)
	}
	for name, bad := range badVers() {
		list["hear "+name] = hearRec(1, 0, bad)
	}
	for name, bad := range nearZeroVers() {
		list["hear "+name] = hearRec(0, 0, bad)
	}
	list["hear the zero Ver"] = hearRec(0, 0, impl.Ver{})
	list["hear what is written"] = hearRec(1, 0, impl.Ver{Key: 1, Past: impl.PastNone(), Text: "a"})
}

// someRec is a record that a data centre can often do.
func someRec(r *rand.Rand, p impl.Place) impl.Rec {
	switch n := r.Intn(16); {
	case n < 4:
		rec := writeRec(r.Intn(4), "", causedBy(r, value(0, tagAt(999, 0), ""), stableOf(p)).Past)
		if rec.Ver.Gone = r.Intn(4) == 0; !rec.Ver.Gone {
			rec.Ver.Text = someText(r)
		}
		return rec
	case n < 10:
		return numRec(impl.EventPass, r.Intn(len(p.Chain.Nodes)))
	case n < 11:
		return numRec(impl.EventFall, r.Intn(len(p.Chain.Nodes)))
	case n < 12:
		return impl.Rec{Kind: impl.EventJoin}
	case n < 14:
		return numRec(impl.EventTake, r.Intn(3))
	}
	from := (p.Me + 1 + r.Intn(2)) % 3
	v := someVer(r, r.Intn(4))
	v.Tag = tagAt(1+len(p.Got[from])*2+r.Intn(2), from)
	return hearRec(from, len(p.Got[from]), causedBy(r, v, stableOf(p)))
}

// someJour is a journal of that many records that can be done, and the data centre behind
// it, both made without the program.
func someJour(r *rand.Rand, me int, nodes int, records int) (string, impl.Place) {
	j, p := fmt.Sprintf("%d %d\n", me, nodes), newPlaceModel(me, nodes)
	for tries := 0; records > 0 && tries < 1000; tries++ {
		rec := someRec(r, p)
		if next, ok := doRecModel(p, rec); ok {
			j, p = j+recEntry(rec), next
			records--
		}
	}
	return j, p
}

// fullJour is a journal of that many bytes: nodes join and fall, and what is heard last
// fills it up. It is looked for, since checksums have more digits or less.
func fullJour(length int) string {
	j := "0 1\n"
	steps := []string{entryText("join"), entryText("fall 1")}
	for i := 0; len(j)+len(steps[i%2]) <= length-142; i++ {
		j += steps[i%2]
	}
	for time := 1; time < 100; time++ {
		for fill := 0; fill <= 24; fill++ {
			whole := j
			for at := 0; at < 3; at++ {
				text := "12345678"[:max(0, min(8, fill-8*at))]
				whole += recEntry(hearRec(1, at, value(at, tagAt(time+at, 1), text)))
			}
			if len(whole) == length {
				return whole
			}
		}
	}
	panic(fmt.Sprint("no journal of ", length, " bytes"))
}

// mustBeZeroRec is the one result of RecGet for every string that is no record.
func mustBeZeroRec(t *testing.T, s string) {
	t.Helper()
	if r, ok := impl.RecGet(s); ok || !reflect.DeepEqual(r, impl.Rec{}) {
		t.Errorf("RecGet(%q) is %v, %v", s, r, ok)
	}
}

// mustRead holds JourRead against the model, and reads again what was read.
func mustRead(t *testing.T, j string) (impl.Place, int) {
	t.Helper()
	p, n := impl.JourRead(j)
	want, wantRead := jourModel(j)
	if n != wantRead || !samePlace(p, want) {
		t.Fatalf("JourRead(%q) is %v, %d instead of %v, %d", j, p, n, want, wantRead)
	}
	if n == 0 {
		if !reflect.DeepEqual(p, impl.Place{}) {
			t.Errorf("JourRead(%q) is %v, 0", j, p)
		}
		return p, n
	}
	mustBeValidPlace(t, p)
	for _, behind := range []string{"", "x"} {
		if len(j[:n]+behind) > 8000 {
			continue
		}
		if q, m := impl.JourRead(j[:n] + behind); m != n || !samePlace(q, p) {
			t.Errorf("JourRead(%q) is %v, %d, that of its beginning and %q is %v, %d", j, p, n, behind, q, m)
		}
	}
	return p, n
}
