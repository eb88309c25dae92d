package tests

import "loop.example/confluence/impl"

// The functions below do what the document says of a valid data centre, made without
// the functions of data centres; where a call is not possible, they give the data
// centre as it is and false.

func recordedModel(p impl.Place) impl.Place {
	out := copyOfPlace(p)
	known := map[impl.Tag]bool{{}: true}
	for _, v := range p.Log {
		known[v.Tag] = true
	}
	for _, v := range tailOf(p).Store.Vers {
		if v.Tag.Place == p.Me && !known[v.Tag] {
			known[v.Tag] = true
			out.Log = append(out.Log, v)
		}
	}
	out.Fell = p.Fell && waitingAt(p) > 0
	return out
}

func withChain(p impl.Place, c impl.Chain) impl.Place {
	out := copyOfPlace(p)
	out.Chain = copyOfChain(c)
	return out
}

func within(a impl.Past, b impl.Past) bool {
	for k, t := range a.Tags {
		if impl.TagLess(b.Tags[k], t) {
			return false
		}
	}
	return true
}

func textOk(text string, gone bool) bool {
	for _, b := range []byte(text) {
		if b < 33 || b > 126 {
			return false
		}
	}
	return len(text) <= 8 && !(gone && text != "")
}

func writeModel(p impl.Place, key int, text string, gone bool, past impl.Past) (impl.Place, impl.Tag) {
	if key < 0 || key > 3 || !textOk(text, gone) || !impl.PastOk(past) || !within(past, stableOf(p)) {
		return p, impl.Tag{}
	}
	time := p.Clock
	for _, t := range past.Tags {
		time = max(time, t.Time)
	}
	time++
	if len(headOf(p).Wait) >= 6 || len(p.Log) >= 60-6*4 || time > 999 {
		return p, impl.Tag{}
	}
	v := impl.Ver{Key: key, Tag: tagAt(time, p.Me), Past: past, Text: text, Gone: gone}
	out := withChain(p, applied(p.Chain, 0, v))
	out.Clock = time
	return recordedModel(out), v.Tag
}

func passModel(p impl.Place, node int) (impl.Place, bool) {
	if !canPass(p.Chain, node) {
		return p, false
	}
	c := applied(p.Chain, node+1, p.Chain.Nodes[node].Wait[0])
	c.Nodes[node].Wait = c.Nodes[node].Wait[1:]
	return recordedModel(withChain(p, c)), true
}

func fallModel(p impl.Place, node int) (impl.Place, bool) {
	if p.Fell || node < 0 || node >= len(p.Chain.Nodes) || len(p.Chain.Nodes) == 1 {
		return p, false
	}
	out := withChain(p, fallen(p.Chain, node))
	out.Fell = true
	return recordedModel(out), true
}

func joinModel(p impl.Place) (impl.Place, bool) {
	if len(p.Chain.Nodes) == 4 {
		return p, false
	}
	out := copyOfPlace(p)
	out.Chain.Nodes = append(out.Chain.Nodes, impl.Node{Store: impl.Store{Vers: copyOfVers(tailOf(p).Store.Vers)}})
	return out, true
}

func hearModel(p impl.Place, from int, at int, v impl.Ver) (impl.Place, bool) {
	if from < 0 || from > 2 || from == p.Me || !impl.VerOk(v) || v.Tag.Place != from || at != len(p.Got[from]) || at == 60 {
		return p, false
	}
	for _, old := range p.Got[from] {
		if old.Tag == v.Tag {
			return p, false
		}
	}
	out := copyOfPlace(p)
	out.Got[from] = append(out.Got[from], v)
	return out, true
}

func takeModel(p impl.Place, from int) (impl.Place, bool) {
	if from < 0 || from > 2 {
		return p, false
	}
	for _, v := range p.Got[from] {
		if !impl.TagLess(headOf(p).Store.Vers[v.Key].Tag, v.Tag) {
			continue
		}
		if !within(v.Past, stableOf(p)) || len(headOf(p).Wait) >= 6 {
			return p, false
		}
		out := withChain(p, applied(p.Chain, 0, v))
		out.Clock = max(p.Clock, v.Tag.Time)
		return recordedModel(out), true
	}
	return p, false
}
