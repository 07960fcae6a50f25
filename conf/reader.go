package conf

import (
	"slices"

	"replica/api"
)

const (
	firstWord = "resource"
	maxName   = 31
)

// reader takes the parts of a resource file off the scanner, and gives up where one cannot stand.
type reader struct{ scanner }

// readResource gives a Config that stands. It begins with what the fields have where their keys are missing; 0 is in the domain of neither of the two that may not be missing.
func readResource(text string) api.Config {
	c := defaults()
	r := reader{scanner{text: text}}
	t := r.next()
	demand(t.kind == word && t.value == firstWord, api.ErrToken, t.at)
	c.Name = r.name()
	r.want(opening)
	end := r.parts(resourceOf(&c))
	demand(c.Blocks != 0 && c.Size != 0, api.ErrMissing, end)
	demand(goTogether(c), api.ErrValue, end)
	r.want(ending)
	return c
}

func (r *reader) want(kind int) {
	t := r.next()
	demand(t.kind == kind, api.ErrToken, t.at)
}

func (r *reader) name() string {
	t := r.next()
	demand(t.kind == word, api.ErrToken, t.at)
	demand(validName(t.value), api.ErrValue, t.at)
	return t.value
}

// parts reads what stands between the outer braces, and tells the place of the closing one.
func (r *reader) parts(known resource) int {
	var t token
	var stood []string
parts:
	for {
		if t = r.keyOrEnd(stood); t.kind == closing {
			break parts
		}
		stood = append(stood, t.value)
		if t.value == known.protocol.name {
			r.value(known.protocol.value)
			continue parts
		}
		for _, s := range known.sections {
			if t.value == s.name {
				r.want(opening)
				r.keys(s.keys)
				continue parts
			}
		}
		panic(fault{api.ErrKey, t.at})
	}
	return t.at
}

// keys reads a section behind its opening brace, up to the closing one.
func (r *reader) keys(known []key) {
	var stood []string
keys:
	for {
		t := r.keyOrEnd(stood)
		if t.kind == closing {
			break keys
		}
		stood = append(stood, t.value)
		for _, k := range known {
			if t.value == k.name {
				r.value(k.value)
				continue keys
			}
		}
		panic(fault{api.ErrKey, t.at})
	}
}

// keyOrEnd reads a word that has not stood yet, or a closing brace.
func (r *reader) keyOrEnd(stood []string) token {
	t := r.next()
	demand(t.kind == word || t.kind == closing, api.ErrToken, t.at)
	demand(t.kind == closing || !slices.Contains(stood, t.value), api.ErrAgain, t.at)
	return t
}

func (r *reader) value(v value) {
	t := r.next()
	demand(t.kind == word || t.kind == quoted, api.ErrToken, t.at)
	demand(v.read(t) && v.stands(), api.ErrValue, t.at)
	r.want(stop)
}

func validName(name string) bool {
	if len(name) < 1 || len(name) > maxName || !isLetter(name[0]) {
		return false
	}
	for i := range len(name) {
		if !inWord(name[i]) || name[i] == '.' {
			return false
		}
	}
	return true
}
