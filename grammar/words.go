package grammar

import "daybook/api"

// none stands where a query has no part, no condition, no limit.
const none = -1

// The greatest numbers of an order's column, as it is written, and of a limit.
const (
	maxColumn = 99
	maxLimit  = 999999999
)

// The levels of precedence: the grammar's rows from or to atom. What has a higher one binds closer.
const (
	orLevel = iota + 1
	andLevel
	notLevel
	relationLevel
	sumLevel
	productLevel
	signLevel
	atomLevel
)

// operations: each at its Op: how it is written (atoms have no sign of their own), and its level.
var operations = [...]struct {
	sign  string
	level int
}{
	api.QOr: {"or", orLevel}, api.QAnd: {"and", andLevel}, api.QNot: {"not", notLevel},
	api.QEq: {"=", relationLevel}, api.QNe: {"<>", relationLevel},
	api.QLt: {"<", relationLevel}, api.QLe: {"<=", relationLevel},
	api.QGt: {">", relationLevel}, api.QGe: {">=", relationLevel},
	api.QUnder: {"under", relationLevel}, api.QHas: {"has", relationLevel},
	api.QAdd: {"+", sumLevel}, api.QSub: {"-", sumLevel},
	api.QMul: {"*", productLevel}, api.QNeg: {"-", signLevel},
	api.QField: {"", atomLevel}, api.QNum: {"", atomLevel}, api.QText: {"", atomLevel},
	api.QDay: {"", atomLevel}, api.QBool: {"", atomLevel},
}

// levelOf is an Op's level; 0, if there is no such Op.
func levelOf(op int) int {
	if op < 0 || op >= len(operations) {
		return 0
	}
	return operations[op].level
}

// keys: the words that are neither fields nor truths.
const keys = "where by show order limit count sum min max and or not under has asc desc"

// marks: a longer one stands ahead of its own beginning.
const marks = "<> <= >= ( ) , + - * = < >"

const (
	blanks   = " \t\n\r"
	quote    = '\''
	dayShape = "0000-00-00" // each 0 is any digit
)

// fieldNames: each at its field's number.
func fieldNames() []string {
	return []string{
		api.FSeq: "seq", api.FLine: "line", api.FDay: "day", api.FKind: "kind", api.FKey: "key",
		api.FAccount: "account", api.FAmount: "amount", api.FDebit: "debit", api.FCredit: "credit",
		api.FTag: "tag", api.FMemo: "memo", api.FMonth: "month", api.FYear: "year", api.FRoot: "root",
	}
}

// aggregateNames: each at its aggregate's number.
func aggregateNames() []string {
	return []string{api.ACount: "count", api.ASum: "sum", api.AMin: "min", api.AMax: "max"}
}

// truths: each at its number.
func truths() []string { return []string{"false", "true"} }

func isField(f int) bool { return f >= api.FSeq && f <= api.FRoot }

func isSmall(b byte) bool { return b >= 'a' && b <= 'z' }
func isDigit(b byte) bool { return b >= '0' && b <= '9' }

// inText tells whether a byte may stand in a text.
func inText(b byte) bool { return b >= ' ' && b <= '~' }
