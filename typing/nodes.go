package typing

import (
	"daybook/api"
	"daybook/day"
)

// untyped stands for the type of what has none.
const untyped = 0

func isTyped(t int) bool { return t != untyped }

// shape is a node without the fields that its Op does not use: a leaf, a single or a pair.
type shape interface{ isShape() }

// leaf: its type hangs on no other node.
type leaf struct{ valueType int }

type single struct{ op, left int }

type pair struct{ op, left, right int }

func (leaf) isShape()   {}
func (single) isShape() {}
func (pair) isShape()   {}

// narrow takes from a node what its Op uses; nil, if there is no such Op.
func narrow(n api.Node) shape {
	switch n.Op {
	case api.QField:
		_, valueType := Field(n.Field)
		return leaf{valueType}
	case api.QNum:
		return leaf{api.TNum}
	case api.QText:
		return leaf{api.TText}
	case api.QDay:
		return leaf{typeIf(isDay(n.Num), api.TDay)}
	case api.QBool:
		return leaf{typeIf(n.Num == 0 || n.Num == 1, api.TBool)}
	case api.QNot, api.QNeg:
		return single{n.Op, n.Left}
	case api.QOr, api.QAnd, api.QEq, api.QNe, api.QLt, api.QLe, api.QGt, api.QGe,
		api.QUnder, api.QHas, api.QAdd, api.QSub, api.QMul:
		return pair{n.Op, n.Left, n.Right}
	}
	return nil
}

func isDay(n int64) bool {
	_, why := day.To(int(n))
	return why == api.OK
}

// typeIf is a type, if something is so; else none.
func typeIf(so bool, valueType int) int {
	if !so {
		return untyped
	}
	return valueType
}

// typesOf is the types of all nodes, each at its place.
func typesOf(nodes []api.Node) []int {
	types := make([]int, 0, len(nodes))
	for _, n := range nodes {
		types = append(types, typeOf(narrow(n), types))
	}
	return types
}

// typeOf is the type of a node, by those of the nodes ahead of it.
func typeOf(s shape, ahead []int) int {
	switch s := s.(type) {
	case leaf:
		return s.valueType
	case single:
		return singleType(s.op, typeAt(ahead, s.left))
	case pair:
		return pairType(s.op, typeAt(ahead, s.left), typeAt(ahead, s.right))
	}
	return untyped
}

// typeAt is the type at a place; there is none at what is no place.
func typeAt(types []int, place int) int {
	if place < 0 || place >= len(types) {
		return untyped
	}
	return types[place]
}

// singleType is what not and the sign - make of their part's type.
func singleType(op, of int) int {
	if op == api.QNot {
		return typeIf(of == api.TBool, api.TBool)
	}
	return typeIf(of == api.TNum || of == api.TMoney, of)
}

// pairType is what an operation makes of its parts' types.
func pairType(op, left, right int) int {
	switch op {
	case api.QOr, api.QAnd:
		return typeIf(left == api.TBool && right == api.TBool, api.TBool)
	case api.QEq, api.QNe:
		return typeIf(areAlike(left, right), api.TBool)
	case api.QLt, api.QLe, api.QGt, api.QGe:
		return typeIf(areAlike(left, right) && left != api.TBool, api.TBool)
	case api.QUnder, api.QHas:
		return typeIf(left == api.TText && right == api.TText, api.TBool)
	}
	return reckonedType(op, left, right)
}

// areAlike tells whether values of two types can be held against each other.
func areAlike(left, right int) bool {
	if left == right {
		return isTyped(left)
	}
	return left == api.TMoney && right == api.TNum || left == api.TNum && right == api.TMoney
}

// reckonings: which types can be reckoned with, and what that gives.
var reckonings = [...]struct{ op, left, right, gives int }{
	{api.QAdd, api.TNum, api.TNum, api.TNum},
	{api.QAdd, api.TMoney, api.TMoney, api.TMoney},
	{api.QAdd, api.TDay, api.TNum, api.TDay},
	{api.QAdd, api.TNum, api.TDay, api.TDay},
	{api.QSub, api.TNum, api.TNum, api.TNum},
	{api.QSub, api.TMoney, api.TMoney, api.TMoney},
	{api.QSub, api.TDay, api.TNum, api.TDay},
	{api.QSub, api.TDay, api.TDay, api.TNum},
	{api.QMul, api.TNum, api.TNum, api.TNum},
	{api.QMul, api.TMoney, api.TNum, api.TMoney},
	{api.QMul, api.TNum, api.TMoney, api.TMoney},
}

// reckonedType is what +, - and * make of their parts' types.
func reckonedType(op, left, right int) int {
	for _, r := range reckonings {
		if r.op == op && r.left == left && r.right == right {
			return r.gives
		}
	}
	return untyped
}
