package impl

import (
	"cmp"
	"strconv"
	"strings"
)

// Limits of tags and keys.
const (
	TimeMax  = 999
	PlaceMax = 3
	KeyMax   = 4
)

// Tag tells a write: its time, and its place; nothing of what was never written.
type Tag struct {
	Time  int
	Place int
}

// Past is causes: the latest tag of each key.
type Past struct {
	Tags []Tag
}

// vector is a valid Past. An array has the right length by itself and is copied
// with the struct, so that no result can share it.
type vector struct {
	tags [KeyMax]Tag
}

// TagOk says whether a tag is ok.
func TagOk(t Tag) bool {
	if t == (Tag{}) {
		return true
	}
	return t.Time >= 1 && t.Time <= TimeMax && t.Place >= 0 && t.Place < PlaceMax
}

// TagLess says whether a tag is earlier than another one.
func TagLess(a Tag, b Tag) bool {
	return a.less(b)
}

func (t Tag) less(other Tag) bool {
	return t.compare(other) < 0
}

// compare is negative if t is earlier, and positive if it is later; sorting asks for that.
func (t Tag) compare(other Tag) int {
	return cmp.Or(cmp.Compare(t.Time, other.Time), cmp.Compare(t.Place, other.Place))
}

// TagMax is the later one of two tags.
func TagMax(a Tag, b Tag) Tag {
	if a.less(b) {
		return b
	}
	return a
}

// TagPut writes a tag.
func TagPut(t Tag) string {
	if !TagOk(t) {
		return ""
	}
	return strconv.Itoa(t.Time) + "." + strconv.Itoa(t.Place)
}

// TagGet reads a tag.
func TagGet(s string) (Tag, bool) {
	before, after, _ := strings.Cut(s, ".")
	time, timeOk := readNumber(before)
	place, placeOk := readNumber(after)
	t := Tag{Time: time, Place: place}
	if !timeOk || !placeOk || !TagOk(t) {
		return Tag{}, false
	}
	return t, true
}

// readNumber accepts only what strconv.Itoa writes: Atoi alone would also take
// "+1" and "01", which are no encodings.
func readNumber(s string) (int, bool) {
	n, err := strconv.Atoi(s)
	if err != nil || strconv.Itoa(n) != s {
		return 0, false
	}
	return n, true
}

// PastOk says whether causes are ok.
func PastOk(p Past) bool {
	_, ok := vectorOf(p)
	return ok
}

func vectorOf(p Past) (vector, bool) {
	if len(p.Tags) != KeyMax {
		return vector{}, false
	}
	var v vector
	for k, t := range p.Tags {
		if !TagOk(t) {
			return vector{}, false
		}
		v.tags[k] = t
	}
	return v, true
}

// past makes a new slice at each call, because v is a copy of its own.
func (v vector) past() Past {
	return Past{Tags: v.tags[:]}
}

// PastNone is no causes.
func PastNone() Past {
	return vector{}.past()
}

// PastJoin is causes of both.
func PastJoin(a Past, b Past) Past {
	x, xOk := vectorOf(a)
	y, yOk := vectorOf(b)
	if !xOk || !yOk {
		return Past{}
	}
	return x.join(y).past()
}

func (v vector) join(other vector) vector {
	for k, t := range other.tags {
		v.tags[k] = TagMax(v.tags[k], t)
	}
	return v
}

// PastWithin says whether causes are nowhere later than others.
func PastWithin(a Past, b Past) bool {
	x, xOk := vectorOf(a)
	y, yOk := vectorOf(b)
	return xOk && yOk && x.within(y)
}

func (v vector) within(other vector) bool {
	for k, t := range v.tags {
		if other.tags[k].less(t) {
			return false
		}
	}
	return true
}
