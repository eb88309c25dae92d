package impl

import (
	"slices"
	"strconv"
	"strings"
)

// TextMax is how many bytes a text has at most.
const TextMax = 8

// bodyWords is how many words a version has behind its tag: the tags of Past, and the rest.
const bodyWords = KeyMax + 1

// Ver is a version of a key: a text, or that it is gone, its tag, and its causes.
type Ver struct {
	Key  int
	Tag  Tag
	Past Past
	Text string
	Gone bool
}

// Store is a version of each key, or nothing.
type Store struct {
	Vers []Ver
}

// content is what a version has beside its tags. Values and tombstones differ in
// which texts are valid and in how they are written.
type content interface {
	ok() bool
	rest() string
	into(v Ver) Ver
}

type value struct {
	text string
}

// tombstone keeps a text although a valid one has none: an argument may be invalid.
type tombstone struct {
	text string
}

func (c value) ok() bool {
	if len(c.text) > TextMax {
		return false
	}
	for i := 0; i < len(c.text); i++ {
		if c.text[i] < 33 || c.text[i] > 126 {
			return false
		}
	}
	return true
}

func (c value) rest() string {
	return "=" + c.text
}

func (c value) into(v Ver) Ver {
	v.Text, v.Gone = c.text, false
	return v
}

func (c tombstone) ok() bool {
	return c.text == ""
}

func (c tombstone) rest() string {
	return "-"
}

func (c tombstone) into(v Ver) Ver {
	v.Text, v.Gone = c.text, true
	return v
}

func contentOf(text string, gone bool) content {
	if gone {
		return tombstone{text: text}
	}
	return value{text: text}
}

// readContent does not check the text; VerOk does.
func readContent(s string) (content, bool) {
	if s == "-" {
		return tombstone{}, true
	}
	text, found := strings.CutPrefix(s, "=")
	return value{text: text}, found
}

// VerOk says whether a version is ok.
func VerOk(v Ver) bool {
	if v.Key < 0 || v.Key >= KeyMax || !contentOf(v.Text, v.Gone).ok() {
		return false
	}
	// Beginning at 0 also rules out the zero Tag, which is valid but no version's.
	return TagOk(v.Tag) && PastOk(v.Past) && v.Tag.Time > fold(v.Past.Tags, 0, laterTime)
}

func laterTime(time int, t Tag) int {
	return max(time, t.Time)
}

// VerPut writes a version.
func VerPut(v Ver) string {
	if !VerOk(v) {
		return ""
	}
	return strconv.Itoa(v.Key) + " " + TagPut(v.Tag) + " " + putBody(v.Past, contentOf(v.Text, v.Gone))
}

// putBody is what versions and the records of writes have in common.
func putBody(past Past, c content) string {
	var words []string
	for _, t := range past.Tags {
		words = append(words, TagPut(t))
	}
	return strings.Join(append(words, c.rest()), " ")
}

// VerGet reads a version.
func VerGet(s string) (Ver, bool) {
	key, s, _ := strings.Cut(s, " ")
	tag, s, _ := strings.Cut(s, " ")
	keyNumber, keyOk := readNumber(key)
	t, tagOk := TagGet(tag)
	past, c, bodyOk := readBody(s)
	if !keyOk || !tagOk || !bodyOk {
		return Ver{}, false
	}
	v := c.into(Ver{Key: keyNumber, Tag: t, Past: past})
	if !VerOk(v) {
		return Ver{}, false
	}
	return v, true
}

// readBody does not check the text, as readContent does not.
func readBody(s string) (Past, content, bool) {
	words := strings.SplitN(s, " ", bodyWords)
	if len(words) != bodyWords {
		return Past{}, nil, false
	}
	past, pastOk := readPast(words[:KeyMax])
	c, contentOk := readContent(words[KeyMax])
	return past, c, pastOk && contentOk
}

func readPast(words []string) (Past, bool) {
	var p Past
	for _, w := range words {
		t, ok := TagGet(w)
		if !ok {
			return Past{}, false
		}
		p.Tags = append(p.Tags, t)
	}
	return p, true
}

// StoreOk says whether a store is ok.
func StoreOk(s Store) bool {
	if len(s.Vers) != KeyMax {
		return false
	}
	for k, v := range s.Vers {
		if !v.none() && (v.Key != k || !VerOk(v)) {
			return false
		}
	}
	return true
}

func (v Ver) none() bool {
	return v.same(Ver{})
}

// same takes a nil slice and an empty one as the same.
func (v Ver) same(other Ver) bool {
	return v.Key == other.Key && v.Tag == other.Tag && slices.Equal(v.Past.Tags, other.Past.Tags) && v.Text == other.Text && v.Gone == other.Gone
}

// StoreNew is a new store.
func StoreNew() Store {
	return Store{Vers: make([]Ver, KeyMax)}
}

// StoreAdd is a store with a version, if that is later.
func StoreAdd(s Store, v Ver) Store {
	if !StoreOk(s) || !VerOk(v) {
		return Store{}
	}
	return Store{Vers: keepLater(copyVers(s.Vers), v)}
}

// keepLater changes vers, which its caller owns. It also takes the zero Ver: its
// tag is later than none.
func keepLater(vers []Ver, v Ver) []Ver {
	if vers[v.Key].Tag.less(v.Tag) {
		vers[v.Key] = v.clone()
	}
	return vers
}

func copyVers(list []Ver) []Ver {
	var out []Ver
	for _, v := range list {
		out = append(out, v.clone())
	}
	return out
}

func (v Ver) clone() Ver {
	v.Past.Tags = append([]Tag(nil), v.Past.Tags...)
	return v
}

// StoreTags is the tags of a store.
func StoreTags(s Store) Past {
	if !StoreOk(s) {
		return Past{}
	}
	var tags vector
	for k, v := range s.Vers {
		tags.tags[k] = v.Tag
	}
	return tags.past()
}

// StoreJoin is the later versions of two stores.
func StoreJoin(a Store, b Store) Store {
	if !StoreOk(a) || !StoreOk(b) {
		return Store{}
	}
	return Store{Vers: fold(b.Vers, copyVers(a.Vers), keepLater)}
}

func fold[T any, R any](list []T, result R, step func(R, T) R) R {
	for _, x := range list {
		result = step(result, x)
	}
	return result
}

// StoreClosed says whether a store has all causes of what it has.
func StoreClosed(s Store) bool {
	if !StoreOk(s) {
		return false
	}
	tags := StoreTags(s)
	for _, v := range s.Vers {
		if !v.none() && !PastWithin(v.Past, tags) {
			return false
		}
	}
	return true
}
