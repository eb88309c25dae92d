package tests

import "loop.example/confluence/impl"

// verdicts is what the four guards say of a history.
type verdicts struct {
	written, reads, own, follow bool
}

func guardsOf(list []impl.Done) verdicts {
	return verdicts{impl.GuardWritten(list), impl.GuardReads(list), impl.GuardOwn(list), impl.GuardFollow(list)}
}

// guardModel goes through a well-formed history once. It remembers what was written, the
// latest tag that each client read and was sure of, and the latest time that it saw.
func guardModel(list []impl.Done) verdicts {
	type ofKey struct {
		key int
		tag impl.Tag
	}
	written := map[ofKey]bool{}
	var read, owned [4][4]impl.Tag
	var seen [4]int
	out := verdicts{true, true, true, true}
	for _, d := range list {
		if d.Kind == 1 {
			out.follow = out.follow && d.Tag.Time > seen[d.Sess]
			written[ofKey{d.Key, d.Tag}] = true
			continue
		}
		if d.Tag.Time > 0 && !written[ofKey{d.Key, d.Tag}] {
			out.written = false
		}
		seen[d.Sess] = max(seen[d.Sess], d.Tag.Time)
		if d.Kind == 3 {
			owned[d.Sess][d.Key] = impl.TagMax(owned[d.Sess][d.Key], d.Tag)
			continue
		}
		out.reads = out.reads && !impl.TagLess(d.Tag, read[d.Sess][d.Key])
		out.own = out.own && !impl.TagLess(d.Tag, owned[d.Sess][d.Key])
		read[d.Sess][d.Key] = impl.TagMax(read[d.Sess][d.Key], d.Tag)
	}
	return out
}

// onlyModel is the records of a client.
func onlyModel(list []impl.Done, sess int) []impl.Done {
	var out []impl.Done
	for _, d := range list {
		if d.Sess == sess {
			out = append(out, d)
		}
	}
	return out
}
