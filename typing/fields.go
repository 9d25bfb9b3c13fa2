package typing

import "daybook/api"

// fields: each at its number, from 1 on.
var fields = [...]struct {
	name      string
	valueType int
}{
	api.FSeq: {"seq", api.TNum}, api.FLine: {"line", api.TNum}, api.FDay: {"day", api.TDay},
	api.FKind: {"kind", api.TNum}, api.FKey: {"key", api.TText}, api.FAccount: {"account", api.TText},
	api.FAmount: {"amount", api.TMoney}, api.FDebit: {"debit", api.TMoney}, api.FCredit: {"credit", api.TMoney},
	api.FTag: {"tag", api.TText}, api.FMemo: {"memo", api.TText},
	api.FMonth: {"month", api.TNum}, api.FYear: {"year", api.TNum}, api.FRoot: {"root", api.TText},
}

// Field is a field's name and type.
func Field(f int) (string, int) {
	if !isField(f) {
		return "", untyped
	}
	return fields[f].name, fields[f].valueType
}

// FieldOf is the number of the field of a name.
func FieldOf(name string) (int, bool) {
	for f, x := range fields {
		if isField(f) && x.name == name {
			return f, true
		}
	}
	return 0, false
}

func isField(f int) bool { return f >= api.FSeq && f <= api.FRoot }
