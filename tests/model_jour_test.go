package tests

import (
	"fmt"
	"hash/crc32"
	"regexp"
	"strconv"
	"strings"

	"loop.example/confluence/impl"
)

// recValid says what the document says of a record that can be written.
func recValid(r impl.Rec) bool {
	switch r.Kind {
	case 1:
		v := r.Ver
		return r.At == 0 && r.Num == 0 && v.Tag == impl.Tag{} && v.Key >= 0 && v.Key <= 3 && textOk(v.Text, v.Gone) && impl.PastOk(v.Past)
	case 6, 7:
		return r.At == 0 && r.Num >= 0 && r.Num <= 3 && isNone(r.Ver)
	case 8:
		return r.At == 0 && r.Num == 0 && isNone(r.Ver)
	case 9:
		return r.At == 0 && r.Num >= 0 && r.Num <= 2 && isNone(r.Ver)
	case 11:
		return r.At >= 0 && r.At <= 59 && r.Num >= 0 && r.Num <= 2 && impl.VerOk(r.Ver)
	}
	return false
}

// recText is the text form of a valid record, made without the program.
func recText(r impl.Rec) string {
	switch r.Kind {
	case 1:
		words := strings.Split(verText(r.Ver), " ")
		return "write " + words[0] + " " + strings.Join(words[2:], " ")
	case 8:
		return "join"
	case 11:
		return fmt.Sprintf("hear %d %d %s", r.Num, r.At, verText(r.Ver))
	}
	return fmt.Sprintf("%s %d", map[int]string{6: "pass", 7: "fall", 9: "take"}[r.Kind], r.Num)
}

// recForms is the text form of each kind of record.
var recForms = func() map[int]*regexp.Regexp {
	const tag = `(0\.0|[1-9][0-9]{0,2}\.[0-2])`
	const body = tag + " " + tag + " " + tag + " " + tag + " (-|=[!-~]{0,8})"
	forms := map[int]*regexp.Regexp{}
	for kind, form := range map[int]string{
		1:  "write ([0-3]) " + body,
		6:  "pass ([0-3])",
		7:  "fall ([0-3])",
		8:  "join",
		9:  "take ([0-2])",
		11: "hear ([0-2]) ([0-9]|[1-5][0-9]) ([0-3]) " + tag + " " + body,
	} {
		forms[kind] = regexp.MustCompile(`\A` + form + `\z`)
	}
	return forms
}()

// recGetModel reads a record by its form, made without the program.
func recGetModel(s string) (impl.Rec, bool) {
	for kind, form := range recForms {
		parts := form.FindStringSubmatch(s)
		if parts == nil {
			continue
		}
		r := impl.Rec{Kind: kind}
		switch kind {
		case 1:
			r.Ver = bodyModel(parts[2:])
			r.Ver.Key = numberOf(parts[1])
		case 11:
			r.Ver = bodyModel(parts[5:])
			r.Num, r.At, r.Ver.Key, r.Ver.Tag = numberOf(parts[1]), numberOf(parts[2]), numberOf(parts[3]), tagOf(parts[4])
			return r, laterThanAll(r.Ver)
		case 6, 7, 9:
			r.Num = numberOf(parts[1])
		}
		return r, true
	}
	return impl.Rec{}, false
}

func bodyModel(parts []string) impl.Ver {
	v := impl.Ver{Gone: parts[4] == "-", Text: parts[4][1:]}
	for _, s := range parts[:4] {
		v.Past.Tags = append(v.Past.Tags, tagOf(s))
	}
	return v
}

func laterThanAll(v impl.Ver) bool {
	later := v.Tag.Time > 0
	for _, t := range v.Past.Tags {
		later = later && v.Tag.Time > t.Time
	}
	return later
}

func numberOf(s string) int {
	n, err := strconv.Atoi(s)
	if err != nil {
		panic(err)
	}
	return n
}

func tagOf(s string) impl.Tag {
	time, place, _ := strings.Cut(s, ".")
	return tagAt(numberOf(time), numberOf(place))
}

// doRecModel does what a record tells to a valid data centre.
func doRecModel(p impl.Place, r impl.Rec) (impl.Place, bool) {
	if !recValid(r) {
		return p, false
	}
	switch r.Kind {
	case 1:
		out, tag := writeModel(p, r.Ver.Key, r.Ver.Text, r.Ver.Gone, r.Ver.Past)
		return out, tag.Time > 0
	case 6:
		return passModel(p, r.Num)
	case 7:
		return fallModel(p, r.Num)
	case 8:
		return joinModel(p)
	case 9:
		return takeModel(p, r.Num)
	}
	return hearModel(p, r.Num, r.At, r.Ver)
}

// entryText is a text as a journal has the text form of a record.
func entryText(s string) string {
	return fmt.Sprintf("%d %d %s;", len(s), crc32.ChecksumIEEE([]byte(s)), s)
}

func recEntry(r impl.Rec) string {
	return entryText(recText(r))
}

// entryModel is the record that s begins with: up to the first sign for which all fits.
func entryModel(s string) (impl.Rec, int, bool) {
	for i := 0; i < len(s); i++ {
		if s[i] != ';' {
			continue
		}
		words := strings.SplitN(s[:i], " ", 3)
		if len(words) == 3 && entryText(words[2]) == s[:i+1] {
			r, ok := recGetModel(words[2])
			return r, i + 1, ok
		}
	}
	return impl.Rec{}, 0, false
}

// jourModel is JourRead, made without the program.
func jourModel(j string) (impl.Place, int) {
	read := 0
	var p impl.Place
	for me := 0; me < 3; me++ {
		for nodes := 1; nodes <= 4; nodes++ {
			if header := fmt.Sprintf("%d %d\n", me, nodes); strings.HasPrefix(j, header) {
				p, read = newPlaceModel(me, nodes), len(header)
			}
		}
	}
	if read == 0 || len(j) > 8000 {
		return impl.Place{}, 0
	}
	for {
		r, size, ok := entryModel(j[read:])
		if !ok {
			return p, read
		}
		next, done := doRecModel(p, r)
		if !done {
			return p, read
		}
		p, read = next, read+size
	}
}

func newPlaceModel(me int, nodes int) impl.Place {
	return newWorldModel(nodes, 0).Places[me]
}
