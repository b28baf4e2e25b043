package shdoc

import (
	"strings"

	"indenture/api"
)

// What the Mode of a state may be.
const (
	between uint8 = iota // between lines
	onward               // a line goes on
	inside               // in the document that waits first
)

// counted is the state that s counts as. Its words are new: what is told of a state shares no bytes with one that was handed in.
func counted(s api.State) api.State {
	if !Own(s) {
		return api.State{}
	}
	for i, doc := range s.Docs {
		s.Docs[i].Word = strings.Clone(doc.Word)
	}
	return s
}

// waiting are the documents that wait in s, as they stand in a state that has no others.
func waiting(s api.State) [api.MaxDocs]api.Doc {
	var docs [api.MaxDocs]api.Doc
	copy(docs[:], s.Docs[:s.Wait])
	return docs
}

// mayBe tells whether s may be so as to its Mode, its Mark, and how many documents wait.
func mayBe(s api.State) bool {
	switch s.Mode {
	case between:
		return s.Mark == 0 && s.Wait == 0
	case onward:
		return s.Mark == 0 || s.Mark == '\'' || s.Mark == '"'
	case inside:
		return s.Mark == 0 && s.Wait > 0
	}
	return false
}
