package intern

import (
	"strings"
	"testing"
	"unsafe"

	"indenture/api"
)

// P10.1: no text of which a state's word is a piece is kept, neither with the states nor with what they are found by.
func TestNoTextIsKept(t *testing.T) {
	text := strings.Repeat("abc ", 1000)
	from := uintptr(unsafe.Pointer(unsafe.StringData(text)))
	table := New()
	for i := range api.MaxDocs {
		var s api.State
		s.Docs[i].Word = text[5*i : 6*i+3]
		for range 2 {
			table.Id(s)
		}
	}
	kept := func(s api.State) {
		for _, doc := range s.Docs {
			at := uintptr(unsafe.Pointer(unsafe.StringData(doc.Word)))
			if doc.Word != "" && at >= from && at < from+uintptr(len(text)) {
				t.Errorf("the word %q is a piece of a text that was handed in", doc.Word)
			}
		}
	}
	for s, id := range table.numbers {
		kept(s)
		kept(table.states[id])
	}
	if len(table.numbers) != api.MaxDocs || len(table.states) != api.MaxDocs {
		t.Errorf("%d states are found, %d are there", len(table.numbers), len(table.states))
	}
}
