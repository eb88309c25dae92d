package tests

import (
	"maps"

	"loop.example/confluence/impl"
)

// histModel checks a history by sets of writes: what a client has seen is the set of
// all writes that happened before, and its view of a key is the latest one of that.
type histModel struct {
	seen  [4]map[impl.Tag]bool
	keys  map[impl.Tag]int
	by    map[impl.Tag]int
	needs map[impl.Tag]map[impl.Tag]bool
}

// accountModel is the model of the consistent records at the beginning of a
// well-formed list, and their number.
func accountModel(list []impl.Done) (*histModel, int) {
	m := &histModel{keys: map[impl.Tag]int{}, by: map[impl.Tag]int{}, needs: map[impl.Tag]map[impl.Tag]bool{}}
	for sess := range m.seen {
		m.seen[sess] = map[impl.Tag]bool{}
	}
	for i, d := range list {
		if !m.add(d) {
			return m, i
		}
	}
	return m, len(list)
}

func (m *histModel) view(sess int) impl.Past {
	view := pastOf(make([]impl.Tag, 4)...)
	for tag := range m.seen[sess] {
		if key := m.keys[tag]; impl.TagLess(view.Tags[key], tag) {
			view.Tags[key] = tag
		}
	}
	return view
}

func (m *histModel) add(d impl.Done) bool {
	_, known := m.keys[d.Tag]
	if d.Kind == 1 {
		for tag := range m.seen[d.Sess] {
			known = known || tag.Time >= d.Tag.Time
		}
		if known {
			return false
		}
		m.keys[d.Tag], m.by[d.Tag] = d.Key, d.Sess
		m.needs[d.Tag] = maps.Clone(m.seen[d.Sess])
		return true
	}
	for tag := range m.seen[d.Sess] {
		if m.keys[tag] == d.Key && impl.TagLess(d.Tag, tag) {
			return false
		}
	}
	if d.Tag.Time == 0 {
		return true
	}
	if !known || m.keys[d.Tag] != d.Key || d.Kind == 3 && m.by[d.Tag] != d.Sess {
		return false
	}
	maps.Copy(m.seen[d.Sess], m.needs[d.Tag])
	m.seen[d.Sess][d.Tag] = true
	return true
}
