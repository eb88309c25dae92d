package tests

import (
	"fmt"
	"hash/crc32"
	"math"
	"math/rand"
	"reflect"
	"strings"
	"testing"

	"loop.example/confluence/impl"
)

func TestLimitOfFrames(t *testing.T) {
	if impl.FrameMax != 120 {
		t.Error(impl.FrameMax)
	}
}

// allBytes is a text with every byte.
func allBytes() string {
	var b []byte
	for i := 0; i < 256; i++ {
		b = append(b, byte(i))
	}
	return string(b)
}

// sumTexts is texts of all lengths, with all bytes.
func sumTexts() []string {
	r := rand.New(rand.NewSource(42))
	list := []string{"", "123456789", "a", "0>1 0 0 1.0 0.0 0.0 0.0 0.0 =a", allBytes(), strings.Repeat("\x00", 40), strings.Repeat("\xff", 40), strings.Repeat("ab", 4000)}
	for i := 0; i < 256; i++ {
		list = append(list, string([]byte{byte(i)}), string([]byte{0, byte(i)}), string([]byte{byte(i), 0}))
	}
	for i := 0; i < 500; i++ {
		b := make([]byte, r.Intn(130))
		r.Read(b)
		list = append(list, string(b))
	}
	return list
}

func TestP42CrcIsCRC32(t *testing.T) {
	for s, want := range map[string]int{"": 0, "123456789": 3421780262, "a": 3904355907, "\x00": 3523407757, "\xff": 4278190080} {
		if got := impl.Crc(s); got != want {
			t.Errorf("Crc(%q) is %d instead of %d", s, got, want)
		}
	}
	for _, s := range sumTexts() {
		if got := impl.Crc(s); got != int(crc32.ChecksumIEEE([]byte(s))) {
			t.Errorf("Crc(%q) is %d", s, got)
		}
	}
}

func TestP42FlippingABitChangesTheChecksum(t *testing.T) {
	for _, s := range sumTexts() {
		if len(s) > 256 {
			continue
		}
		sum := impl.Crc(s)
		for i := 0; i < len(s); i++ {
			for bit := 0; bit < 8; bit++ {
				b := []byte(s)
				b[i] ^= 1 << bit
				if impl.Crc(string(b)) == sum {
					t.Errorf("Crc(%q) does not change with bit %d of byte %d", s, bit, i)
				}
			}
		}
	}
}

// signTexts is texts with the signs that a frame has itself.
func signTexts() []string {
	return []string{"#", "##", "########", ">", "1>0", "a#", "#1", "#0", "=#", "-", "=", "a#123", "1>0#9", "\"", "!\"#$"}
}

// frameList has valid frames with all edges that the document names.
func frameList() []impl.Frame {
	list := []impl.Frame{longFrame()}
	vers := verList()
	for _, text := range signTexts() {
		vers = append(vers, value(3, tagAt(12, 2), text), value(0, tagAt(999, 0), text))
	}
	ats := []int{0, 1, 9, 10, 58, 59}
	for i, v := range vers {
		from := v.Tag.Place
		list = append(list, impl.Frame{From: from, To: (from + 1) % 3, At: ats[i%6], Ver: v}, impl.Frame{From: from, To: (from + 2) % 3, At: ats[(i+1)%6], Ver: v})
	}
	for at := 0; at < 60; at++ {
		list = append(list, impl.Frame{From: 1, To: 0, At: at, Ver: tombstone(2, tagAt(7, 1))})
	}
	return list
}

// longFrame has no shorter part than any other frame has.
func longFrame() impl.Frame {
	late := tagAt(998, 2)
	return impl.Frame{From: 2, To: 1, At: 59, Ver: impl.Ver{Key: 3, Tag: tagAt(999, 2), Past: pastOf(late, late, late, late), Text: "12345678"}}
}

// badFrames is frames that cannot be written, by what is wrong with them.
func badFrames() map[string]impl.Frame {
	list := map[string]impl.Frame{"zero": {}}
	change := func(name string, f func(f *impl.Frame)) {
		frame := impl.Frame{From: 1, To: 0, At: 3, Ver: impl.Ver{Key: 2, Tag: tagAt(5, 1), Past: impl.PastNone(), Text: "a"}}
		f(&frame)
		list[name] = frame
	}
	for _, n := range []int{math.MinInt, -1, 3, 4, math.MaxInt} {
		change(fmt.Sprint("from ", n), func(f *impl.Frame) { f.From = n })
		change(fmt.Sprint("of place and from ", n), func(f *impl.Frame) { f.From, f.Ver.Tag.Place = n, n })
		change(fmt.Sprint("to ", n), func(f *impl.Frame) { f.To = n })
		change(fmt.Sprint("both ", n), func(f *impl.Frame) { f.From, f.To = n, n })
	}
	for place := 0; place < 3; place++ {
		change(fmt.Sprint("from and to ", place), func(f *impl.Frame) { f.From, f.To, f.Ver.Tag.Place = place, place, place })
	}
	for _, n := range []int{math.MinInt, -1, 60, 61, math.MaxInt} {
		change(fmt.Sprint("at ", n), func(f *impl.Frame) { f.At = n })
	}
	change("of place 0, which it goes to", func(f *impl.Frame) { f.Ver.Tag.Place = 0 })
	change("of place 2", func(f *impl.Frame) { f.Ver.Tag.Place = 2 })
	change("from 2, of place 1", func(f *impl.Frame) { f.From = 2 })
	change("the zero Ver", func(f *impl.Frame) { f.Ver = impl.Ver{} })
	change("the zero Ver from 0", func(f *impl.Frame) { *f = impl.Frame{From: 0, To: 1} })
	for name, v := range badVers() {
		change("version "+name, func(f *impl.Frame) { f.Ver = v })
	}
	for name, v := range nearZeroVers() {
		change("version "+name, func(f *impl.Frame) { f.From, f.To, f.Ver = 0, 1, v })
	}
	return list
}

// mustNotBeAFrame is the one result of FrameGet for every string that is no frame.
func mustNotBeAFrame(t *testing.T, s string) {
	t.Helper()
	if f, ok := impl.FrameGet(s); ok || !reflect.DeepEqual(f, impl.Frame{}) {
		t.Errorf("FrameGet(%q) is %v, %v", s, f, ok)
	}
}

func TestP43DecodingAFrameInvertsEncoding(t *testing.T) {
	for _, f := range frameList() {
		s := impl.FramePut(f)
		if s != summed(bodyText(f)) || len(s) > 120 {
			t.Fatalf("FramePut(%v) is %q", f, s)
		}
		if x, ok := impl.FrameGet(s); !ok || !sameFrame(x, f) {
			t.Errorf("FrameGet(%q) is %v, %v", s, x, ok)
		}
	}
	if s := impl.FramePut(longFrame()); len(s) < 58 {
		t.Errorf("%q is not the longest frame", s)
	}
}

func TestP43AFlippedBitIsNoticed(t *testing.T) {
	for _, f := range frameList() {
		s := impl.FramePut(f)
		for i := 0; i < len(s); i++ {
			b := []byte(s)
			b[i] ^= 1
			mustNotBeAFrame(t, string(b))
		}
	}
}

func TestP43FramesThatCannotBeWritten(t *testing.T) {
	for name, f := range badFrames() {
		if s := impl.FramePut(f); s != "" || frameOk(f) {
			t.Errorf("%s: FramePut(%v) is %q", name, f, s)
		}
		// A tombstone with a text would be written as one without, which is valid.
		if len(f.Ver.Past.Tags) == 4 && !f.Ver.Gone {
			mustNotBeAFrame(t, summed(bodyText(f)))
		}
	}
	for from := -1; from <= 3; from++ {
		for to := -1; to <= 3; to++ {
			for place := 0; place < 3; place++ {
				f := impl.Frame{From: from, To: to, Ver: value(0, tagAt(1, place), "a")}
				if got := impl.FramePut(f) != ""; got != frameOk(f) {
					t.Errorf("FramePut(%v): %v", f, got)
				}
			}
		}
	}
}

// mustBeCanonicalFrame holds what FrameGet says of any string against the encoding.
func mustBeCanonicalFrame(t *testing.T, s string) {
	t.Helper()
	f, ok := impl.FrameGet(s)
	if !ok {
		mustNotBeAFrame(t, s)
		return
	}
	if !frameOk(f) || impl.FramePut(f) != s || summed(bodyText(f)) != s {
		t.Errorf("FrameGet(%q) is %v, true", s, f)
	}
}

func TestP44TheEncodingOfFramesIsCanonical(t *testing.T) {
	found := 0
	for _, f := range []impl.Frame{frameList()[0], frameList()[3], {From: 0, To: 2, At: 10, Ver: value(1, tagAt(3, 0), "a#>#")}, {From: 1, To: 0, Ver: tombstone(2, tagAt(5, 1))}} {
		for _, s := range neighbours(impl.FramePut(f)) {
			mustBeCanonicalFrame(t, s)
		}
		// With the right checksum it is the text itself that must be right.
		for _, s := range neighbours(bodyText(f)) {
			mustBeCanonicalFrame(t, summed(s))
			if _, ok := impl.FrameGet(summed(s)); ok {
				found++
			}
		}
	}
	if found < 20 {
		t.Error("too few frames among the neighbours:", found)
	}
	r := rand.New(rand.NewSource(44))
	for i := 0; i < 20000; i++ {
		s := ""
		for j := r.Intn(14); j > 0; j-- {
			s += []string{"0", "1", "2", ">", ">", " ", " ", "#", "59", "60", "1.0", "0.0 0.0 0.0 0.0", "=a", "-", "+"}[r.Intn(15)]
		}
		mustBeCanonicalFrame(t, s)
		mustBeCanonicalFrame(t, summed(s))
	}
}

func TestP44TextsThatAreNoFrame(t *testing.T) {
	good := "1>0 3 2 5.1 0.0 0.0 0.0 0.0 =a"
	if _, ok := impl.FrameGet(summed(good)); !ok {
		t.Fatal(summed(good))
	}
	for _, s := range []string{
		"", ">", " ", "1", "1>0", "1>0 3", "1>0 3 ", good[4:], good[2:], ">" + good[2:], "1" + good[2:], "1> 3" + good[5:], "1>0  2 5.1 0.0 0.0 0.0 0.0 =a",
		"01" + good[1:], "+1" + good[1:], "-1" + good[1:], " 1" + good[1:], "1 " + good[1:], "1>00" + good[3:], "1>+0" + good[3:], "1>-0" + good[3:], "1> 0" + good[3:],
		"1>0 03" + good[5:], "1>0 +3" + good[5:], "1>0 -3" + good[5:], "1>0  3" + good[5:], "1>0 3 " + good[5:], "1>0 60" + good[5:], "1>0 99999999999999999999" + good[5:],
		"1>1" + good[3:], "0>1" + good[3:], "2>0" + good[3:], "1>3" + good[3:], "3" + good[1:], "1>>0" + good[3:], "1<0" + good[3:], "1>0>2" + good[3:], "1,0" + good[3:],
		good + "\n", good + " ", "\n" + good, good + "\x00", good[:len(good)-2], good[:len(good)-2] + "-a", good[:len(good)-2] + "=123456789", good[:len(good)-2] + "= a",
	} {
		mustNotBeAFrame(t, s)
		mustNotBeAFrame(t, s+"#")
		mustNotBeAFrame(t, summed(s))
	}
}

func TestP44TheChecksumIsWrittenInOneWay(t *testing.T) {
	for _, f := range frameList() {
		body := bodyText(f)
		sum := fmt.Sprint(crc32.ChecksumIEEE([]byte(body)))
		more := fmt.Sprint(int(crc32.ChecksumIEEE([]byte(body))) + 1<<32)
		for _, wrong := range []string{"", "0", "1", "0" + sum, "00" + sum, "+" + sum, "-" + sum, " " + sum, sum + " ", sum + "0", sum + "\n", sum + "#", sum + "x", sum[1:], sum[:len(sum)-1], more, "#" + sum} {
			mustNotBeAFrame(t, body+"#"+wrong)
		}
		mustNotBeAFrame(t, body+sum)
		mustNotBeAFrame(t, body)
		mustNotBeAFrame(t, summed(body)+"#"+sum)
	}
}

// shortSum is a frame without a text whose checksum has few digits.
func shortSum() impl.Frame {
	for time := 1; time <= 999; time++ {
		for at := 0; at < 60; at++ {
			f := impl.Frame{From: 1, To: 2, At: at, Ver: value(0, tagAt(time, 1), "")}
			if crc32.ChecksumIEEE([]byte(bodyText(f))) < 1000000 {
				return f
			}
		}
	}
	panic("all checksums are long")
}

func TestP44ASecondSignBelongsToTheText(t *testing.T) {
	f := shortSum()
	once := summed(bodyText(f))
	if x, ok := impl.FrameGet(once); !ok || !sameFrame(x, f) {
		t.Fatal(once, x, ok)
	}
	for zeros := 1; zeros <= 6; zeros++ {
		mustNotBeAFrame(t, strings.Replace(once, "#", "#"+strings.Repeat("0", zeros), 1))
	}
	// The first sign and what follows it is a text of at most TextMax bytes here.
	twice := summed(once)
	x, ok := impl.FrameGet(twice)
	if !ok || x.Ver.Text != strings.TrimPrefix(once, bodyText(f)) || impl.FramePut(x) != twice {
		t.Errorf("FrameGet(%q) is %v, %v", twice, x, ok)
	}
	f.Ver = tombstone(0, f.Ver.Tag)
	mustNotBeAFrame(t, summed(summed(bodyText(f))))
}

func TestP44TextsOfFrameMaxBytesAndMore(t *testing.T) {
	start, end := "1>0 3 2 5.1 0.0 0.0 0.0 0.0 =", "#1234567890"
	for _, length := range []int{60, 119, 120, 121, 122, 1000} {
		for _, fill := range []string{"a", "0", " ", "#", ">"} {
			body := start + strings.Repeat(fill, length-len(start)-len(end))
			for len(summed(body)) < length {
				body += fill
			}
			s := summed(body)
			mustNotBeAFrame(t, s)
			mustNotBeAFrame(t, strings.Repeat(fill, length))
			mustNotBeAFrame(t, summed(strings.Repeat("0", length)+start))
		}
	}
}

func TestP45LogEntriesCanBeSentAsFrames(t *testing.T) {
	told := 0
	for _, p := range append(placeList(), goodPlace()) {
		for _, to := range extremes() {
			for _, at := range []int{math.MinInt, -1, 0, 1, 2, len(p.Log) - 1, len(p.Log), 59, 60, math.MaxInt} {
				f, ok := impl.PlaceTold(p, to, at)
				if ok != (to >= 0 && to < 3 && to != p.Me && at >= 0 && at < len(p.Log)) {
					t.Fatalf("PlaceTold(%v, %d, %d) is %v, %v", p, to, at, f, ok)
				}
				if !ok {
					mustBeZeroFrame(t, "PlaceTold", f, ok)
					continue
				}
				told++
				mustBeSent(t, p, to, at, f)
			}
		}
	}
	if told < 200 {
		t.Error("too few frames:", told)
	}
}

func mustBeZeroFrame(t *testing.T, name string, f impl.Frame, ok bool) {
	t.Helper()
	if ok || !reflect.DeepEqual(f, impl.Frame{}) {
		t.Errorf("%s: %v, %v is not the zero Frame and false", name, f, ok)
	}
}

// mustBeSent checks the frame of a log entry, and that its receiver can read it.
func mustBeSent(t *testing.T, p impl.Place, to int, at int, f impl.Frame) {
	t.Helper()
	if !sameFrame(f, impl.Frame{From: p.Me, To: to, At: at, Ver: p.Log[at]}) {
		t.Errorf("PlaceTold(%v, %d, %d) is %v", p, to, at, f)
	}
	s := impl.FramePut(f)
	if x, ok := impl.FrameGet(s); s == "" || !ok || !sameFrame(x, f) {
		t.Errorf("FramePut(%v) is %q", f, s)
	}
	for nodes := 1; nodes <= 4; nodes++ {
		q, ok := impl.PlaceHear(impl.PlaceNew(to, nodes), f.From, f.At, f.Ver)
		if ok != (at == 0) || ok && !sameVers(q.Got[p.Me], []impl.Ver{p.Log[at]}) {
			t.Errorf("hearing of %v: %v, %v", f, q, ok)
		}
	}
}

func TestP45AFullLog(t *testing.T) {
	p := placeOf(2, chainFrom(impl.StoreNew(), nil))
	p.Log = logOfLength(2, 60, 100)
	for at := 0; at < 60; at++ {
		f, ok := impl.PlaceTold(p, 0, at)
		if !ok {
			t.Fatal(at)
		}
		mustBeSent(t, p, 0, at, f)
	}
	for _, at := range []int{-1, 60, 61} {
		f, ok := impl.PlaceTold(p, 0, at)
		mustBeZeroFrame(t, fmt.Sprint("at ", at), f, ok)
	}
}

func TestP45InvalidDataCentres(t *testing.T) {
	for name, p := range badPlaces() {
		for to := -1; to <= 3; to++ {
			f, ok := impl.PlaceTold(p, to, 0)
			mustBeZeroFrame(t, name, f, ok)
		}
	}
}

func TestP45WhatIsToldIsWhatIsSent(t *testing.T) {
	sent := 0
	for _, w := range worldList() {
		for at := 0; at < 3; at++ {
			for to := -1; to <= 3; to++ {
				for _, key := range []int{-1, 0, 1, len(w.Places[at].Log) - 1, len(w.Places[at].Log)} {
					f, told := impl.PlaceTold(w.Places[at], to, key)
					x, ok := impl.WorldDo(w, impl.Event{Kind: impl.EventSend, At: at, Num: to, Key: key})
					if ok != (told && len(w.Net) < 12) || ok && !sameFrame(x.Net[len(x.Net)-1], f) {
						t.Errorf("%v is told, %v is sent", f, x.Net)
					}
					if ok {
						sent++
					}
				}
			}
		}
	}
	if sent < 100 {
		t.Error("too few frames:", sent)
	}
}
