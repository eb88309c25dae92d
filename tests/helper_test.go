package tests

import (
	"fmt"
	"math"
	"math/rand"
	"strings"
	"testing"

	"loop.example/confluence/impl"
)

func tagAt(time int, place int) impl.Tag {
	return impl.Tag{Time: time, Place: place}
}

func pastOf(tags ...impl.Tag) impl.Past {
	return impl.Past{Tags: tags}
}

// value is a version without dependencies.
func value(key int, tag impl.Tag, text string) impl.Ver {
	return impl.Ver{Key: key, Tag: tag, Past: impl.PastNone(), Text: text}
}

func storeOf(list ...impl.Ver) impl.Store {
	s := impl.StoreNew()
	for _, v := range list {
		s = impl.StoreAdd(s, v)
	}
	return s
}

// The comparisons below treat a nil slice and an empty one as the same value.

func samePast(a impl.Past, b impl.Past) bool {
	if len(a.Tags) != len(b.Tags) {
		return false
	}
	for i, t := range a.Tags {
		if b.Tags[i] != t {
			return false
		}
	}
	return true
}

func sameVer(a impl.Ver, b impl.Ver) bool {
	return a.Key == b.Key && a.Tag == b.Tag && samePast(a.Past, b.Past) && a.Text == b.Text && a.Gone == b.Gone
}

func sameStore(a impl.Store, b impl.Store) bool {
	if len(a.Vers) != len(b.Vers) {
		return false
	}
	for i, v := range a.Vers {
		if !sameVer(v, b.Vers[i]) {
			return false
		}
	}
	return true
}

func isNone(v impl.Ver) bool {
	return sameVer(v, impl.Ver{})
}

// tagList has valid tags and invalid ones, the limits, and one more than the limits.
func tagList() []impl.Tag {
	var list []impl.Tag
	for _, time := range []int{math.MinInt, -1, 0, 1, 2, 998, 999, 1000, math.MaxInt} {
		for _, place := range []int{math.MinInt, -1, 0, 1, 2, 3, math.MaxInt} {
			list = append(list, tagAt(time, place))
		}
	}
	return list
}

// tagTexts is the encoding of every valid tag, made without the program.
func tagTexts() map[string]impl.Tag {
	texts := map[string]impl.Tag{"0.0": {}}
	for time := 1; time <= 999; time++ {
		for place := 0; place <= 2; place++ {
			texts[fmt.Sprintf("%d.%d", time, place)] = tagAt(time, place)
		}
	}
	return texts
}

// someTag is a valid tag of at most that time; few times, so that equal tags are frequent.
func someTag(r *rand.Rand, most int) impl.Tag {
	time := r.Intn(most + 1)
	if time == 0 {
		return impl.Tag{}
	}
	return tagAt(time, r.Intn(impl.PlaceMax))
}

func somePast(r *rand.Rand, most int) impl.Past {
	var p impl.Past
	for k := 0; k < impl.KeyMax; k++ {
		p.Tags = append(p.Tags, someTag(r, most))
	}
	return p
}

func someText(r *rand.Rand) string {
	b := make([]byte, r.Intn(impl.TextMax+1))
	for i := range b {
		b[i] = byte(33 + r.Intn(94))
	}
	return string(b)
}

func someVer(r *rand.Rand, key int) impl.Ver {
	time := 1 + r.Intn(6)
	v := impl.Ver{Key: key, Tag: tagAt(time, r.Intn(impl.PlaceMax)), Past: somePast(r, time-1)}
	if r.Intn(4) == 0 {
		v.Gone = true
	} else {
		v.Text = someText(r)
	}
	return v
}

// someStore is a valid store, made without the program.
func someStore(r *rand.Rand) impl.Store {
	s := impl.Store{Vers: make([]impl.Ver, impl.KeyMax)}
	for k := range s.Vers {
		if r.Intn(3) > 0 {
			s.Vers[k] = someVer(r, k)
		}
	}
	return s
}

// someClosedStore adds versions that depend only on what is there.
func someClosedStore(r *rand.Rand) impl.Store {
	s := impl.Store{Vers: make([]impl.Ver, impl.KeyMax)}
	for time := 1; time <= 6; time++ {
		v := impl.Ver{Key: r.Intn(impl.KeyMax), Tag: tagAt(time, r.Intn(impl.PlaceMax)), Text: someText(r)}
		for _, old := range s.Vers {
			t := old.Tag
			if r.Intn(3) == 0 {
				t = impl.Tag{}
			}
			v.Past.Tags = append(v.Past.Tags, t)
		}
		if r.Intn(3) > 0 {
			s.Vers[v.Key] = v
		}
	}
	return s
}

// badPasts is invalid vectors: of a wrong length, and with one invalid tag at each key.
func badPasts() []impl.Past {
	zero := impl.Tag{}
	list := []impl.Past{{}, {Tags: []impl.Tag{}}, pastOf(zero), pastOf(zero, zero, zero), pastOf(zero, zero, zero, zero, zero)}
	for k := 0; k < 4; k++ {
		for _, t := range []impl.Tag{tagAt(0, 1), tagAt(1, 3), tagAt(1, -1), tagAt(-1, 0), tagAt(1000, 0)} {
			p := pastOf(zero, zero, zero, zero)
			p.Tags[k] = t
			list = append(list, p)
		}
	}
	return list
}

// badVers is invalid versions by what is wrong with them.
func badVers() map[string]impl.Ver {
	list := map[string]impl.Ver{}
	change := func(name string, f func(v *impl.Ver)) {
		v := impl.Ver{Key: 1, Tag: tagAt(5, 1), Past: pastOf(tagAt(4, 2), tagAt(1, 0), impl.Tag{}, tagAt(4, 0)), Text: "a"}
		f(&v)
		list[name] = v
	}
	change("key -1", func(v *impl.Ver) { v.Key = -1 })
	change("key 4", func(v *impl.Ver) { v.Key = 4 })
	change("key MinInt", func(v *impl.Ver) { v.Key = math.MinInt })
	change("key MaxInt", func(v *impl.Ver) { v.Key = math.MaxInt })
	change("zero tag", func(v *impl.Ver) { v.Tag, v.Past = impl.Tag{}, impl.PastNone() })
	change("zero tag, later past", func(v *impl.Ver) { v.Tag = impl.Tag{} })
	change("time 1000", func(v *impl.Ver) { v.Tag.Time = 1000 })
	change("time -1", func(v *impl.Ver) { v.Tag.Time = -1 })
	change("place 3", func(v *impl.Ver) { v.Tag.Place = 3 })
	change("place -1", func(v *impl.Ver) { v.Tag.Place = -1 })
	change("nine bytes", func(v *impl.Ver) { v.Text = "123456789" })
	change("gone with text", func(v *impl.Ver) { v.Gone = true })
	for i, p := range badPasts() {
		change(fmt.Sprint("past ", i), func(v *impl.Ver) { v.Past = p })
	}
	for k := 0; k < 4; k++ {
		change(fmt.Sprint("same time as the past of key ", k), func(v *impl.Ver) { v.Past.Tags[k] = tagAt(5, 0) })
		change(fmt.Sprint("same tag as the past of key ", k), func(v *impl.Ver) { v.Past.Tags[k] = tagAt(5, 1) })
		change(fmt.Sprint("earlier than the past of key ", k), func(v *impl.Ver) { v.Past.Tags[k] = tagAt(6, 0) })
	}
	for _, b := range []byte{0, 10, 32, 127, 128, 255} {
		change(fmt.Sprint("first byte ", b), func(v *impl.Ver) { v.Text = string([]byte{b, 'a'}) })
		change(fmt.Sprint("last byte ", b), func(v *impl.Ver) { v.Text = "abcdefg" + string([]byte{b}) })
	}
	return list
}

// badStores is invalid stores by what is wrong with them.
func badStores() map[string]impl.Store {
	full := func() impl.Store {
		var s impl.Store
		for k := 0; k < 4; k++ {
			s.Vers = append(s.Vers, value(k, tagAt(k+1, 0), "a"))
		}
		return s
	}
	list := map[string]impl.Store{"nil": {}, "empty": {Vers: []impl.Ver{}}}
	list["three"] = impl.Store{Vers: full().Vers[:3]}
	list["five"] = impl.Store{Vers: append(full().Vers, impl.Ver{})}
	for k := 0; k < 4; k++ {
		s := full()
		s.Vers[k].Key = (k + 1) % 4
		list[fmt.Sprint("other key at ", k)] = s
		for name, v := range nearZeroVers() {
			s = full()
			s.Vers[k] = v
			list[fmt.Sprint(name, " at ", k)] = s
		}
		for name, v := range badVers() {
			if !strings.HasPrefix(name, "key") {
				v.Key = k
			}
			s = full()
			s.Vers[k] = v
			list[fmt.Sprint(name, " at ", k)] = s
		}
	}
	return list
}

// nearZeroVers differ from the zero Ver in one field, and are invalid.
func nearZeroVers() map[string]impl.Ver {
	return map[string]impl.Ver{
		"zero but key":  {Key: 4},
		"zero but key1": {Key: 1},
		"zero but tag":  {Tag: tagAt(1, 0)},
		"zero but past": {Past: impl.PastNone()},
		"zero but text": {Text: "a"},
		"zero but gone": {Gone: true},
	}
}

// neighbours are the strings that differ from s in one byte: changed, removed or inserted.
func neighbours(s string) []string {
	const bytes = "0123459.-+= ab#\n\x00\x7f\xff"
	var list []string
	for i := 0; i <= len(s); i++ {
		for j := 0; j < len(bytes); j++ {
			list = append(list, s[:i]+bytes[j:j+1]+s[i:])
			if i < len(s) {
				list = append(list, s[:i]+bytes[j:j+1]+s[i+1:])
			}
		}
		if i < len(s) {
			list = append(list, s[:i]+s[i+1:], s[:i])
		}
	}
	return list
}

func mustBeValid(t *testing.T, s impl.Store) {
	t.Helper()
	if !impl.StoreOk(s) {
		t.Fatalf("store is invalid: %v", s)
	}
}
