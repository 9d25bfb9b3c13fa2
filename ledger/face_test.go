package ledger

import (
	"reflect"
	"strings"
	"testing"
)

// TestFace: a ledger's calls are the chapter's and no others: nothing of its parts can be reached past the lock.
func TestFace(t *testing.T) {
	face := reflect.TypeFor[*Ledger]()
	var calls []string
	for i := range face.NumMethod() {
		calls = append(calls, face.Method(i).Name)
	}
	same(t, "the calls", strings.Join(calls, " "), "Accounts Aged Daily Event Export Import Left Len Open Query Rebuild Rollup Snapshot Status Submit Text Trial Trim")
	for i := range face.Elem().NumField() {
		if f := face.Elem().Field(i); f.IsExported() {
			t.Errorf("the field %s can be seen", f.Name)
		}
	}
}
