package tests

import (
	"fmt"
	"hash/crc32"

	"loop.example/confluence/impl"
)

// frameOk says what the document says of a frame that can be written.
func frameOk(f impl.Frame) bool {
	return f.From >= 0 && f.From < 3 && f.To >= 0 && f.To < 3 && f.From != f.To && f.At >= 0 && f.At < 60 && impl.VerOk(f.Ver) && f.Ver.Tag.Place == f.From
}

// summed is a text with its checksum, right whatever the text is.
func summed(s string) string {
	return fmt.Sprintf("%s#%d", s, crc32.ChecksumIEEE([]byte(s)))
}

// bodyText is what is ahead of the checksum of a frame, made without the program.
func bodyText(f impl.Frame) string {
	return fmt.Sprintf("%d>%d %d %s", f.From, f.To, f.At, verText(f.Ver))
}

// causesModel is the view on which each write of a consistent history depends.
func causesModel(list []impl.Done) map[impl.Tag]impl.Past {
	causes := map[impl.Tag]impl.Past{}
	for i, d := range list {
		if d.Kind == impl.DoneWrite {
			m, _ := accountModel(list[:i])
			causes[d.Tag] = m.view(d.Sess)
		}
	}
	return causes
}

// pair is two writes, the earlier one first.
type pair struct {
	first, then impl.Tag
}

// aheadModel is all pairs of which the first happened before the other. Pairs that have
// a write in common are put together until there is no new one.
func aheadModel(causes map[impl.Tag]impl.Past) map[pair]bool {
	ahead := map[pair]bool{}
	for tag, past := range causes {
		for _, cause := range past.Tags {
			if cause.Time > 0 {
				ahead[pair{cause, tag}] = true
			}
		}
	}
	for middle := range causes {
		for first := range causes {
			for then := range causes {
				if ahead[pair{first, middle}] && ahead[pair{middle, then}] {
					ahead[pair{first, then}] = true
				}
			}
		}
	}
	return ahead
}

// lagModel counts, for each data centre, what the others have told and it has not got.
func lagModel(w impl.World) []int {
	lag := make([]int, 3)
	for d := range lag {
		for e := range lag {
			if d == e {
				continue
			}
			got := map[impl.Tag]bool{}
			for _, v := range w.Places[d].Got[e] {
				got[v.Tag] = true
			}
			for _, v := range w.Places[e].Log {
				if !got[v.Tag] {
					lag[d]++
				}
			}
		}
	}
	return lag
}

// nodesModel is the nodes at which a client may read a key of a valid world.
func nodesModel(w impl.World, sess int, key int) []int {
	if sess < 0 || sess >= len(w.Sess) || key < 0 || key > 3 || w.Sess[sess].Wait.Time > 0 {
		return nil
	}
	c := w.Places[w.Sess[sess].Place].Chain
	var list []int
	for k := range c.Nodes {
		if !impl.TagLess(c.Nodes[shownBy(c, k)].Store.Vers[key].Tag, w.Sess[sess].Past.Tags[key]) {
			list = append(list, k)
		}
	}
	return list
}
