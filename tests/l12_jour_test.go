package tests

import (
	"fmt"
	"hash/crc32"
	"math"
	"math/rand"
	"slices"
	"strings"
	"testing"

	"loop.example/confluence/impl"
)

func TestLimitOfJournals(t *testing.T) {
	if impl.JourMax != 8000 {
		t.Error(impl.JourMax)
	}
}

func TestP62DecodingARecordInvertsEncoding(t *testing.T) {
	for _, r := range recList() {
		s := impl.RecPut(r)
		if s != recText(r) || !recValid(r) {
			t.Fatalf("RecPut(%v) is %q", r, s)
		}
		if x, ok := impl.RecGet(s); !ok || !sameRec(x, r) {
			t.Errorf("RecGet(%q) is %v, %v", s, x, ok)
		}
	}
}

func TestP62RecordsAreWrittenLikeThis(t *testing.T) {
	zero, late := impl.Tag{}, tagAt(998, 2)
	for want, r := range map[string]impl.Rec{
		"write 0 0.0 0.0 0.0 0.0 =":       writeRec(0, "", impl.PastNone()),
		"write 3 1.0 0.0 12.2 999.1 =a;b": writeRec(3, "a;b", pastOf(tagAt(1, 0), zero, tagAt(12, 2), tagAt(999, 1))),
		"write 2 0.0 0.0 0.0 0.0 -":       {Kind: 1, Ver: impl.Ver{Key: 2, Past: impl.PastNone(), Gone: true}},
		"write 2 0.0 0.0 0.0 0.0 =-":      writeRec(2, "-", impl.PastNone()),
		"pass 0":                          {Kind: 6},
		"pass 3":                          {Kind: 6, Num: 3},
		"fall 3":                          {Kind: 7, Num: 3},
		"take 2":                          {Kind: 9, Num: 2},
		"join":                            {Kind: 8},
		"hear 0 59 3 999.2 998.2 998.2 998.2 998.2 =12345678":        hearRec(0, 59, impl.Ver{Key: 3, Tag: tagAt(999, 2), Past: pastOf(late, late, late, late), Text: "12345678"}),
		"hear 2 0 0 1.2 0.0 0.0 0.0 0.0 -":                           hearRec(2, 0, tombstone(0, tagAt(1, 2))),
		"hear 1 10 1 7.0 0.0 0.0 0.0 0.0 =" + strings.Repeat(";", 8): hearRec(1, 10, value(1, tagAt(7, 0), ";;;;;;;;")),
	} {
		if s := impl.RecPut(r); s != want {
			t.Errorf("RecPut(%v) is %q instead of %q", r, s, want)
		}
		if x, ok := impl.RecGet(want); !ok || !sameRec(x, r) {
			t.Errorf("RecGet(%q) is %v, %v", want, x, ok)
		}
	}
}

func TestP62InvalidRecordsAreNotWritten(t *testing.T) {
	for name, r := range badRecs() {
		if s := impl.RecPut(r); s != "" || recValid(r) {
			t.Errorf("%s: RecPut(%v) is %q", name, r, s)
		}
	}
}

// mustBeReadAsModel holds what RecGet says of any string against its form.
func mustBeReadAsModel(t *testing.T, s string) bool {
	t.Helper()
	want, wantOk := recGetModel(s)
	if !wantOk {
		mustBeZeroRec(t, s)
		return false
	}
	if r, ok := impl.RecGet(s); !ok || !sameRec(r, want) || impl.RecPut(r) != s {
		t.Errorf("RecGet(%q) is %v, %v", s, r, ok)
	}
	return true
}

func TestP63TheEncodingOfRecordsIsCanonical(t *testing.T) {
	read := 0
	for i, r := range recList() {
		if i%7 > 0 && r.Kind != impl.EventJoin && r.Kind != impl.EventTake {
			continue
		}
		for _, s := range neighbours(recText(r)) {
			if mustBeReadAsModel(t, s) {
				read++
			}
		}
	}
	if read < 100 {
		t.Error("too few neighbours are records:", read)
	}
}

func TestP63TextsOfManyWords(t *testing.T) {
	r := rand.New(rand.NewSource(63))
	words := []string{"write", "pass", "fall", "take", "join", "hear", "0", "1", "3", "59", "0.0", "1.0", "2.1", "0.0", "0.0", "=a", "-", "", "ask", "01", "+1", "-1"}
	read := 0
	for i := 0; i < 60000; i++ {
		list := []string{words[r.Intn(6)]}
		for n := r.Intn(10); n > 0; n-- {
			list = append(list, words[6+r.Intn(len(words)-6)])
		}
		if mustBeReadAsModel(t, strings.Join(list, " ")) {
			read++
		}
	}
	if read < 100 {
		t.Error("too few texts are records:", read)
	}
}

func TestP63TextsThatAreNoRecord(t *testing.T) {
	list := []string{
		"", " ", ";", "x", "ask 0", "read 0 0 0", "all 0", "move 0 1", "send 0 1 0", "lose 0", "keep 0", "Join", "JOIN", "joins", "joi", "1", "8",
		"join 0", "join ", " join", "join\n", "join;", "pass", "pass ", "pass  0", "pass 0 ", " pass 0", "pass 0 0", "pass\t0", "pass0", "pass 4", "pass -1", "pass -0", "pass +1", "pass 01", "pass 00", "pass a", "pass 0\n", "pass 99999999999999999999",
		"fall", "fall 4", "fall 03", "fall +3", "fall 3 3", "take", "take 3", "take 02", "take +2", "take -1", "take 0 0",
		"write", "write 1", "write 1 0.0 0.0 0.0 0.0", "write 1 0.0 0.0 0.0 0.0 ", "write 1 0.0 0.0 0.0 =a", "write 1 0.0 0.0 0.0 0.0 0.0 =a", "write 0.0 0.0 0.0 0.0 =a",
		"write 1 0.0 0.0 0.0 0.0 a", "write 1 0.0 0.0 0.0 0.0 -a", "write 1 0.0 0.0 0.0 0.0 --", "write 1 0.0 0.0 0.0 0.0 =a b", "write 1 0.0 0.0 0.0 0.0 =a ", "write 1 0.0 0.0 0.0 0.0  =a", "write  1 0.0 0.0 0.0 0.0 =a", "write 1  0.0 0.0 0.0 0.0 =a",
		"write 4 0.0 0.0 0.0 0.0 =a", "write -1 0.0 0.0 0.0 0.0 =a", "write 01 0.0 0.0 0.0 0.0 =a", "write +1 0.0 0.0 0.0 0.0 =a", "write 1 00.0 0.0 0.0 0.0 =a", "write 1 0.0 0.0 0.0 01.0 =a", "write 1 +1.0 0.0 0.0 0.0 =a",
		"write 1 0.1 0.0 0.0 0.0 =a", "write 1 0.0 1000.0 0.0 0.0 =a", "write 1 0.0 0.0 1.3 0.0 =a", "write 1 0.0 0.0 0.0 0.0 =123456789", "write 1 0.0 0.0 0.0 0.0 =\x7f", "write 1 0.0 0.0 0.0 0.0 =é", "write 1 2.0 0.0 0.0 0.0 0.0 =a",
		"hear", "hear 1", "hear 1 0", "hear 1 0 ", "hear 1 0 0 3.1 0.0 0.0 0.0 0.0", "hear 1 0 0 3.1 0.0 0.0 0.0 =", "hear 1 0 0 3.1 0.0 0.0 0.0 0.0 0.0 =", "hear 1 0 3.1 0.0 0.0 0.0 0.0 =", "hear 3 0 0 3.1 0.0 0.0 0.0 0.0 =", "hear -1 0 0 3.1 0.0 0.0 0.0 0.0 =",
		"hear 1 60 0 3.1 0.0 0.0 0.0 0.0 =", "hear 1 -1 0 3.1 0.0 0.0 0.0 0.0 =", "hear 1 00 0 3.1 0.0 0.0 0.0 0.0 =", "hear 1 +1 0 3.1 0.0 0.0 0.0 0.0 =", "hear 01 0 0 3.1 0.0 0.0 0.0 0.0 =", "hear 1  0 0 3.1 0.0 0.0 0.0 0.0 =",
		"hear 1 0 4 3.1 0.0 0.0 0.0 0.0 =", "hear 1 0 0 0.0 0.0 0.0 0.0 0.0 =", "hear 1 0 0 3.1 3.0 0.0 0.0 0.0 =", "hear 1 0 0 3.1 0.0 0.0 0.0 4.0 -", "hear 1 0 0 3.1 0.0 0.0 0.0 0.0 =a b", "hear 1 0 0 3.1 0.0 0.0 0.0 0.0 - ",
		strings.Repeat("join ", 1000), strings.Repeat(" ", 9000), "write 1 0.0 0.0 0.0 0.0 =" + strings.Repeat("a", 9000), strings.Repeat("9", 9000),
	}
	for _, s := range list {
		mustBeZeroRec(t, s)
	}
}

// recsFor is records for a data centre, possible and not, valid and not.
func recsFor(r *rand.Rand, p impl.Place) []impl.Rec {
	list := append(stepRecs(), writeRec(1, "a", impl.PastNone()), writeRec(3, "", stableOf(p)), impl.Rec{Kind: 1, Ver: impl.Ver{Past: stableOf(p), Gone: true}})
	list = append(list, writeRec(0, "late", pastOf(tagAt(999, 2), impl.Tag{}, impl.Tag{}, impl.Tag{})), writeRec(4, "a", impl.PastNone()), numRec(impl.EventPass, 4), impl.Rec{})
	for from := 0; from < 3; from++ {
		at := len(p.Got[from])
		v := value(2, tagAt(950, from), "new")
		list = append(list, hearRec(from, at, v), hearRec(from, at+1, v), hearRec(from, at-1, v), hearRec(from, at, value(2, tagAt(950, (from+1)%3), "of another")))
		if at > 0 {
			list = append(list, hearRec(from, at, p.Got[from][0]))
		}
	}
	for i := 0; i < 6; i++ {
		list = append(list, someRec(r, p))
	}
	return list
}

func TestP64ARecordPerformsItsOperation(t *testing.T) {
	r := rand.New(rand.NewSource(64))
	count := map[int]int{}
	for _, p := range append(placeList(), goodPlace()) {
		for _, rec := range recsFor(r, p) {
			x, ok := impl.RecDo(p, rec)
			want, wantOk := doRecModel(p, rec)
			if ok != wantOk || !samePlace(x, want) || !ok && !samePlace(x, p) {
				t.Fatalf("RecDo(%v, %v) is %v, %v", p, rec, x, ok)
			}
			mustBeValidPlace(t, x)
			if len(x.Log) < len(p.Log) {
				t.Errorf("RecDo(%v, %v) has a shorter log", p, rec)
			}
			if ok {
				count[rec.Kind]++
			}
		}
	}
	for _, kind := range []int{1, 6, 7, 8, 9, 11} {
		if count[kind] < 30 {
			t.Errorf("too few records of kind %d: %d", kind, count[kind])
		}
	}
}

func TestP64RecordsThatFail(t *testing.T) {
	good := goodPlace()
	for name, r := range badRecs() {
		if x, ok := impl.RecDo(good, r); ok || !samePlace(x, good) {
			t.Errorf("%s: RecDo is %v, %v", name, x, ok)
		}
	}
	// A field that is not listed spoils a record that could be done without it.
	p := placeOf(1, chainFrom(impl.StoreNew(), []impl.Ver{value(0, tagAt(1, 0), "a")}))
	for _, r := range []impl.Rec{{Kind: impl.EventPass, At: 1}, {Kind: impl.EventPass, Ver: impl.Ver{Gone: true}}, {Kind: impl.EventJoin, Num: 1}, {Kind: impl.EventFall, Ver: impl.Ver{Text: "a"}}, {Kind: impl.EventWrite, Num: 1, Ver: impl.Ver{Past: impl.PastNone()}}, {Kind: impl.EventWrite, Ver: impl.Ver{Tag: tagAt(2, 1), Past: impl.PastNone()}}} {
		if x, ok := impl.RecDo(p, r); ok || !samePlace(x, p) {
			t.Errorf("RecDo of %v is %v, %v", r, x, ok)
		}
	}
}

func TestP64InvalidDataCentres(t *testing.T) {
	recs := append(stepRecs(), writeRec(0, "a", impl.PastNone()), hearRec(0, 0, value(0, tagAt(9, 0), "a")), hearRec(1, 0, value(0, tagAt(9, 1), "a")), impl.Rec{}, numRec(impl.EventPass, 9))
	for name, p := range badPlaces() {
		for _, r := range recs {
			x, ok := impl.RecDo(p, r)
			mustBeZeroPlace(t, name, x, ok)
		}
	}
}

func TestP65ANewJournalIsANewDataCentre(t *testing.T) {
	for _, me := range places() {
		for _, nodes := range places() {
			j := impl.JourNew(me, nodes)
			if me < 0 || me > 2 || nodes < 1 || nodes > 4 {
				if j != "" {
					t.Errorf("JourNew(%d, %d) is %q", me, nodes, j)
				}
				continue
			}
			if j != fmt.Sprintf("%d %d\n", me, nodes) {
				t.Fatalf("JourNew(%d, %d) is %q", me, nodes, j)
			}
			p, n := mustRead(t, j)
			if n != len(j) || !samePlace(p, impl.PlaceNew(me, nodes)) {
				t.Errorf("JourRead(%q) is %v, %d", j, p, n)
			}
		}
	}
}

func TestP65HeadersThatAreInvalid(t *testing.T) {
	list := []string{"", "\n", " \n", "0", "0 ", "0\n", "0 \n", " 2\n", "02\n", "0 2 \n", " 0 2\n", "0  2\n", "0\t2\n", "0 2\r\n", "0 2;", "0 2 1\n", "\n0 2\n", "00 2\n", "0 02\n", "01 2\n", "+0 2\n", "-0 2\n", "0 +2\n", "0 -2\n", "-1 2\n", "3 2\n", "0 0\n", "0 5\n", "0 10\n", "a 2\n", "0 a\n", "0.0 2\n", "99999999999999999999 1\n", "0 18446744073709551617\n", "0 2\x00\n"}
	for _, header := range list {
		for _, behind := range []string{"", entryText("join"), "\n" + entryText("join"), "x"} {
			mustHaveNoHeader(t, header+behind)
		}
	}
	for _, j := range []string{"0 2", "0 2x", "0 2;", "0 2" + entryText("join"), "0 2 " + entryText("join")} {
		mustHaveNoHeader(t, j)
	}
}

func mustHaveNoHeader(t *testing.T, j string) {
	t.Helper()
	if p, n := mustRead(t, j); n != 0 {
		t.Errorf("JourRead(%q) is %v, %d", j, p, n)
	}
	if more, ok := impl.JourAdd(j, impl.Rec{Kind: impl.EventJoin}); ok || more != j {
		t.Errorf("JourAdd(%q) is %q, %v", j, more, ok)
	}
	if torn := impl.JourTear(j, impl.Rec{Kind: impl.EventJoin}, 5); torn != j {
		t.Errorf("JourTear(%q) is %q", j, torn)
	}
}

func TestP66AnAppendedRecordIsPerformed(t *testing.T) {
	r := rand.New(rand.NewSource(66))
	added := map[int]int{}
	for i := 0; i < 60; i++ {
		j, p := someJour(r, i%3, 1+i%4, i)
		if q, n := mustRead(t, j); n != len(j) || !samePlace(p, q) {
			t.Fatalf("JourRead(%q) is %v, %d", j, q, n)
		}
		for _, rec := range recsFor(r, p) {
			more, ok := impl.JourAdd(j, rec)
			want, wantOk := doRecModel(p, rec)
			if ok != wantOk || !ok && more != j || ok && more != j+recEntry(rec) {
				t.Fatalf("JourAdd(%q, %v) is %q, %v", j, rec, more, ok)
			}
			if !ok {
				continue
			}
			added[rec.Kind]++
			if q, n := impl.JourRead(more); n != len(more) || !samePlace(q, want) {
				t.Errorf("JourRead(%q) is %v, %d", more, q, n)
			}
		}
	}
	if len(added) != 6 {
		t.Error("not all kinds are there:", added)
	}
}

func TestP66RecordsThatCannotBeAppended(t *testing.T) {
	j := "1 2\n" + entryText("write 1 0.0 0.0 0.0 0.0 =a")
	for name, r := range badRecs() {
		if more, ok := impl.JourAdd(j, r); ok || more != j {
			t.Errorf("%s: JourAdd is %q, %v", name, more, ok)
		}
	}
	for _, r := range []impl.Rec{numRec(impl.EventPass, 1), numRec(impl.EventPass, 2), numRec(impl.EventTake, 0), numRec(impl.EventTake, 1), numRec(impl.EventFall, 2), hearRec(1, 0, value(0, tagAt(1, 1), "own")), hearRec(0, 1, value(0, tagAt(1, 0), "gap")), writeRec(0, "a", pastOf(impl.Tag{}, tagAt(1, 1), impl.Tag{}, impl.Tag{}))} {
		if more, ok := impl.JourAdd(j, r); ok || more != j || !recValid(r) {
			t.Errorf("JourAdd of %v is %q, %v", r, more, ok)
		}
	}
	// Behind what is not read nothing can be appended.
	for _, behind := range []string{"x", " ", "\n", ";", "4", entryText("pass 1"), entryText("join") + "x", entryText("none"), entryText("pass 1") + entryText("join")} {
		for _, r := range []impl.Rec{{Kind: impl.EventJoin}, numRec(impl.EventPass, 0)} {
			if more, ok := impl.JourAdd(j+behind, r); ok || more != j+behind {
				t.Errorf("JourAdd(%q, %v) is %q, %v", j+behind, r, more, ok)
			}
		}
	}
}

func TestP66AtMostJourMaxBytes(t *testing.T) {
	take := numRec(impl.EventTake, 1)
	size := len(recEntry(take))
	for length := 8000 - size - 2; length <= 8000; length++ {
		j := fullJour(length)
		p, n := mustRead(t, j)
		if n != length {
			t.Fatalf("of %d bytes %d are read", length, n)
		}
		more, ok := impl.JourAdd(j, take)
		if _, possible := doRecModel(p, take); !possible {
			t.Fatal("it cannot be done")
		}
		if ok != (length+size <= 8000) || ok && more != j+recEntry(take) || !ok && more != j {
			t.Errorf("JourAdd at %d bytes is %v", length, ok)
		}
		if ok {
			if _, n := mustRead(t, more); n != len(more) {
				t.Errorf("of %d bytes %d are read", len(more), n)
			}
		}
		if torn := impl.JourTear(j, take, size-1); ok && torn != more[:len(more)-1] || !ok && torn != j {
			t.Errorf("JourTear at %d bytes has %d", length, len(torn))
		}
	}
}

func TestP66JournalsOfMoreThanJourMaxBytes(t *testing.T) {
	full := fullJour(8000)
	if p, n := mustRead(t, full); n != 8000 || len(p.Got[1]) != 3 {
		t.Error(p, n)
	}
	over := fullJour(8001)
	for _, j := range []string{over, full + "x", full + recEntry(impl.Rec{Kind: impl.EventJoin}), "0 1\n" + strings.Repeat("x", 7997), "0 1\n" + strings.Repeat(entryText("join"), 1000)} {
		if p, n := mustRead(t, j); n != 0 {
			t.Errorf("of %d bytes %d are read: %v", len(j), n, p)
		}
		if more, ok := impl.JourAdd(j, impl.Rec{Kind: impl.EventJoin}); ok || more != j {
			t.Errorf("JourAdd at %d bytes is %v", len(j), ok)
		}
		if torn := impl.JourTear(j, impl.Rec{Kind: impl.EventJoin}, 3); torn != j {
			t.Errorf("JourTear at %d bytes has %d", len(j), len(torn))
		}
	}
	// What is not read counts too.
	if _, n := mustRead(t, "0 1\n"+strings.Repeat("x", 7996)); n != 4 {
		t.Error(n)
	}
}

func TestP67ATornRecordIsIgnored(t *testing.T) {
	r := rand.New(rand.NewSource(67))
	torn := map[int]int{}
	for i := 0; i < 40; i++ {
		j, p := someJour(r, i%3, 1+i%4, i/2)
		rec := someRec(r, p)
		next, ok := doRecModel(p, rec)
		if !ok {
			continue
		}
		torn[rec.Kind]++
		entry := recEntry(rec)
		for _, bytes := range append(numbersTo(len(entry)+3), math.MinInt, -1, 1000000, math.MaxInt) {
			written := max(0, min(bytes, len(entry)))
			got := impl.JourTear(j, rec, bytes)
			if got != j+entry[:written] {
				t.Fatalf("JourTear(%q, %v, %d) is %q", j, rec, bytes, got)
			}
			want, wantRead := p, len(j)
			if written == len(entry) {
				want, wantRead = next, len(j)+len(entry)
			}
			if q, n := impl.JourRead(got); n != wantRead || !samePlace(q, want) {
				t.Errorf("JourRead(%q) is %v, %d", got, q, n)
			}
		}
	}
	if len(torn) < 5 {
		t.Error("too few kinds:", torn)
	}
}

func numbersTo(n int) []int {
	var list []int
	for i := 0; i <= n; i++ {
		list = append(list, i)
	}
	return list
}

func TestP67WhatCannotBeAppendedIsNotTorn(t *testing.T) {
	j := "1 2\n" + entryText("join")
	for _, bytes := range []int{math.MinInt, -1, 0, 1, 7, 100, math.MaxInt} {
		for name, r := range badRecs() {
			if got := impl.JourTear(j, r, bytes); got != j {
				t.Errorf("%s: JourTear is %q", name, got)
			}
		}
		if got := impl.JourTear(j, numRec(impl.EventPass, 0), bytes); got != j {
			t.Errorf("JourTear is %q", got)
		}
		if got := impl.JourTear(j+"4 ", impl.Rec{Kind: impl.EventJoin}, bytes); got != j+"4 " {
			t.Errorf("JourTear is %q", got)
		}
	}
}

func TestP67AJournalThatIsCutOffAtEachByte(t *testing.T) {
	r := rand.New(rand.NewSource(671))
	for i := 0; i < 12; i++ {
		j, _ := someJour(r, i%3, 1+i%4, 12)
		last := 0
		for n := range len(j) + 1 {
			_, read := mustRead(t, j[:n])
			if read < last || read > n {
				t.Fatalf("of the first %d bytes of %q %d are read, of one less %d", n, j, read, last)
			}
			last = read
		}
		if last != len(j) {
			t.Errorf("of %q %d bytes are read", j, last)
		}
	}
}

// brokenEntries is what is no complete and correct record, by what is wrong with it.
func brokenEntries(s string) map[string]string {
	sum := fmt.Sprint(crc32.ChecksumIEEE([]byte(s)))
	more := fmt.Sprint(int(crc32.ChecksumIEEE([]byte(s))) + 1<<32)
	size := fmt.Sprint(len(s))
	list := map[string]string{
		"nothing":             "",
		"length alone":        size,
		"no checksum":         size + " " + s + ";",
		"no length":           sum + " " + s + ";",
		"no text":             size + " " + sum + " ;",
		"no sign":             size + " " + sum + " " + s,
		"another sign":        size + " " + sum + " " + s + ".",
		"a space for sign":    size + " " + sum + " " + s + " ;",
		"a newline for sign":  size + " " + sum + " " + s + "\n",
		"a space first":       " " + entryText(s),
		"a newline first":     "\n" + entryText(s),
		"a sign first":        ";" + entryText(s),
		"two spaces":          size + "  " + sum + " " + s + ";",
		"two spaces later":    size + " " + sum + "  " + s + ";",
		"a tab":               size + "\t" + sum + " " + s + ";",
		"sum of less":         size + " " + fmt.Sprint(crc32.ChecksumIEEE([]byte(s[1:]))) + " " + s + ";",
		"sum beyond 32 bits":  size + " " + more + " " + s + ";",
		"length and sum swap": sum + " " + size + " " + s + ";",
	}
	for _, wrong := range []string{fmt.Sprint(len(s) - 1), fmt.Sprint(len(s) + 1), fmt.Sprint(len(s) + 2), "0" + size, "+" + size, "-" + size, "", "0", "-1", "x", size + "0", "99999999999999999999", "9223372036854775807", "-9223372036854775808"} {
		list["length "+wrong] = wrong + " " + sum + " " + s + ";"
	}
	for _, wrong := range []string{"", "0", "1", "0" + sum, "+" + sum, "-" + sum, sum + "0", sum[1:], sum[:len(sum)-1], "x" + sum, "99999999999999999999"} {
		list["sum "+wrong] = size + " " + wrong + " " + s + ";"
	}
	return list
}

func TestP68RecordsThatAreNotCorrect(t *testing.T) {
	join := entryText("join")
	for _, text := range []string{"join", "pass 0", "write 1 0.0 0.0 0.0 0.0 =;", "hear 0 0 1 5.0 0.0 0.0 0.0 0.0 =a"} {
		j := "1 2\n" + entryText("write 2 0.0 0.0 0.0 0.0 =b")
		if _, n := mustRead(t, j+entryText(text)+join[:3]); n != len(j)+len(entryText(text)) {
			t.Fatalf("of %q %d bytes are read", j+entryText(text), n)
		}
		for name, broken := range brokenEntries(text) {
			for _, behind := range []string{"", join, "\n" + join} {
				if name == "nothing" && behind == join {
					continue
				}
				if p, n := mustRead(t, j+broken+behind); n != len(j) {
					t.Errorf("%s: JourRead(%q) is %v, %d", name, j+broken+behind, p, n)
				}
			}
		}
	}
}

func TestP68WholeRecordsThatCannotBeDone(t *testing.T) {
	j := "1 2\n" + entryText("write 2 0.0 0.0 0.0 0.0 =b")
	join := entryText("join")
	before, _ := mustRead(t, j)
	for _, text := range []string{
		"pass 1", "pass 2", "pass 3", "fall 2", "take 0", "take 1", "take 2", "hear 1 0 1 5.1 0.0 0.0 0.0 0.0 =a", "hear 0 1 1 5.0 0.0 0.0 0.0 0.0 =a", "hear 0 0 1 5.2 0.0 0.0 0.0 0.0 =a", "write 1 0.0 0.0 1.1 0.0 =a", "write 1 999.0 0.0 0.0 0.0 =a",
		// These are whole, and no records.
		"", "x", "ask 0", "join 0", "pass 4", "write 1 0.0 0.0 0.0 0.0 a", "join;", "write 4 0.0 0.0 0.0 0.0 =a", strings.Repeat("y", 3000),
	} {
		for _, behind := range []string{"", join, entryText("pass 0") + join} {
			if p, n := mustRead(t, j+entryText(text)+behind); n != len(j) || !samePlace(p, before) {
				t.Errorf("JourRead(%q) is %v, %d", j+entryText(text)+behind, p, n)
			}
		}
	}
	// What could not be done before a record can be done behind it.
	late := j + entryText("pass 0") + entryText("write 1 0.0 0.0 1.1 0.0 =a")
	if p, n := mustRead(t, late); n != len(late) || p.Clock != 2 {
		t.Error(p, n)
	}
}

func TestP68ReadingAJournalIsStable(t *testing.T) {
	r := rand.New(rand.NewSource(68))
	for i := 0; i < 4; i++ {
		j, _ := someJour(r, i%3, 1+i, 3)
		for at := range len(j) {
			for bit := range 8 {
				b := []byte(j)
				b[at] ^= 1 << bit
				mustRead(t, string(b))
			}
			mustRead(t, j[:at]+j[at+1:])
			mustRead(t, j[:at]+";"+j[at:])
		}
		for _, s := range neighbours(j) {
			mustRead(t, s)
		}
	}
}

func TestP68JournalsPutTogether(t *testing.T) {
	r := rand.New(rand.NewSource(681))
	whole := 0
	for i := 0; i < 200; i++ {
		j := fmt.Sprintf("%d %d\n", i%3, 1+i%4)
		p := newPlaceModel(i%3, 1+i%4)
		for n := r.Intn(20); n > 0; n-- {
			j += recEntry(recsOnly(someRec(r, p)))
		}
		_, n := mustRead(t, j)
		if n == len(j) {
			whole++
		}
	}
	if whole < 5 || whole > 150 {
		t.Error("too few journals of one kind:", whole)
	}
	many := slices.Repeat([]string{entryText("join") + entryText("fall 0")}, 150)
	j := "2 3\n" + strings.Join(many, "")
	if p, n := mustRead(t, j); n != len(j) || len(p.Chain.Nodes) != 3 {
		t.Error(p, n)
	}
}

// recsOnly is the record, or one that can be done anywhere if it cannot be written.
func recsOnly(r impl.Rec) impl.Rec {
	if recValid(r) {
		return r
	}
	return impl.Rec{Kind: impl.EventJoin}
}
