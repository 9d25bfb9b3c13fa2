package answer

import (
	"testing"

	"daybook/api"
)

// one: an ordinary row, with amount 1, so that amount * n is any money.
var one = api.Posting{Seq: 3, Line: 2, Day: d, Kind: api.KPost, Key: "k", Account: "Assets:Bank", Amount: 1, Tag: "rent", Memo: "a b"}

var overCell api.Cell

// coin: so much money, at row one.
func coin(n int64) []api.Node {
	return joined(api.QMul, leaf(fieldOf(api.FAmount)), leaf(num(n)))
}

// Expressions that are over, at any row.
func overNum() []api.Node { return leaf(num(least)) }
func overCoin() []api.Node {
	return joined(api.QMul, leaf(fieldOf(api.FAmount)), overNum())
}
func overDay() []api.Node  { return joined(api.QAdd, leaf(dayOf(lastDay)), leaf(num(1))) }
func overBool() []api.Node { return joined(api.QEq, overNum(), leaf(num(1))) }

func TestP15_1Leaves(t *testing.T) {
	for _, n := range []int64{0, 1, -1, 7, greatest, greatest - 1, -greatest, -greatest + 1, 1 << 32, -1 << 32} {
		worths(t, number(n), one, leaf(num(n)))
	}
	worths(t, overCell, one, leaf(num(least)))
	for _, s := range []string{"", "x", "Assets", "it's", "\x00", "\xff\xfe", "ä", "a:b", "\n"} {
		worths(t, text(s), one, leaf(said(s)))
	}
	for _, n := range []int64{1, 2, d, lastDay - 1, lastDay} {
		worths(t, date(n), one, leaf(dayOf(n)))
	}
	worths(t, no(), one, leaf(truth(0)))
	worths(t, yes(), one, leaf(truth(1)))
	worths(t, overCell, one, overNum())
	worths(t, overCell, one, overCoin())
	worths(t, overCell, one, overDay())
	worths(t, overCell, one, overBool())
}

func TestP15_1Sums(t *testing.T) {
	for _, x := range []struct{ a, b, sum, difference int64 }{
		{0, 0, 0, 0}, {1, 2, 3, -1}, {-5, 3, -2, -8}, {greatest, 0, greatest, greatest}, {greatest - 1, 1, greatest, greatest - 2},
		{greatest, 1, least, greatest - 1}, {greatest, greatest, least, 0}, {greatest, -1, greatest - 1, least}, {greatest, -greatest, 0, least},
		{-greatest, -1, least, -greatest + 1}, {-greatest, 1, -greatest + 1, least}, {-greatest, 0, -greatest, -greatest},
		{-greatest, greatest, 0, least}, {-greatest, -greatest, least, 0}, {-1, greatest, greatest - 1, least}, {0, greatest, greatest, -greatest},
		{0, -greatest, -greatest, greatest}, {-1, -greatest, least, greatest - 1}, {1, -greatest, -greatest + 1, least}, {-2, -greatest + 1, least, greatest - 3},
		{-1, -greatest + 1, -greatest, greatest - 2}, {1 << 62, 1 << 62, least, 0}, {1 << 62, 1<<62 - 1, greatest, 1}, {-1 << 62, 1 << 62, 0, least},
	} { // least stands for over
		for op, want := range map[int]int64{api.QAdd: x.sum, api.QSub: x.difference} {
			if want == least {
				worths(t, overCell, one, joined(op, leaf(num(x.a)), leaf(num(x.b))))
				worths(t, overCell, one, joined(op, coin(x.a), coin(x.b)))
			} else {
				worths(t, number(want), one, joined(op, leaf(num(x.a)), leaf(num(x.b))))
				worths(t, cash(want), one, joined(op, coin(x.a), coin(x.b)))
			}
		}
	}
}

func TestP15_1Products(t *testing.T) {
	for _, x := range []struct{ a, b, want int64 }{
		{0, 0, 0}, {0, greatest, 0}, {0, -greatest, 0}, {2, 3, 6}, {-2, 3, -6}, {-2, -3, 6}, {greatest, 1, greatest}, {greatest, -1, -greatest}, {-greatest, -1, greatest},
		{greatest, 2, least}, {greatest, -2, least}, {-greatest, 2, least}, {greatest, greatest, least}, {-greatest, -greatest, least},
		{1 << 62, 2, least}, {-1 << 62, 2, least}, {1 << 62, -2, least}, {-1 << 31, 1 << 32, least}, {1 << 32, 1 << 32, least}, {1 << 31, 1<<32 - 1, 1<<63 - 1<<31},
		{7, greatest / 7, greatest / 7 * 7}, {3037000499, 3037000499, 9223372030926249001}, {3037000500, 3037000500, least}, {-3037000499, 3037000499, -9223372030926249001},
		{500, greatest, least},
	} {
		for _, l := range [][2]int64{{x.a, x.b}, {x.b, x.a}} {
			if x.want == least {
				worths(t, overCell, one, joined(api.QMul, leaf(num(l[0])), leaf(num(l[1]))))
				worths(t, overCell, one, joined(api.QMul, coin(l[0]), leaf(num(l[1]))))
				worths(t, overCell, one, joined(api.QMul, leaf(num(l[0])), coin(l[1])))
			} else {
				worths(t, number(x.want), one, joined(api.QMul, leaf(num(l[0])), leaf(num(l[1]))))
				worths(t, cash(x.want), one, joined(api.QMul, coin(l[0]), leaf(num(l[1]))))
				worths(t, cash(x.want), one, joined(api.QMul, leaf(num(l[0])), coin(l[1])))
			}
		}
	}
}

func TestP15_1Opposites(t *testing.T) {
	for _, n := range []int64{0, 1, -1, 9, greatest, -greatest, greatest - 1, -greatest + 1} {
		worths(t, number(-n), one, turned(api.QNeg, leaf(num(n))))
		worths(t, cash(-n), one, turned(api.QNeg, coin(n)))
		worths(t, number(n), one, turned(api.QNeg, turned(api.QNeg, leaf(num(n)))))
	}
	worths(t, overCell, one, turned(api.QNeg, overNum()))
	worths(t, overCell, one, turned(api.QNeg, overCoin()))
	worths(t, yes(), one, turned(api.QNot, leaf(truth(0))))
	worths(t, no(), one, turned(api.QNot, leaf(truth(1))))
	worths(t, overCell, one, turned(api.QNot, overBool()))
}

// Days plus and less numbers, at both ends of the days; days less days.
func TestP15_1Days(t *testing.T) {
	for _, x := range []struct{ day, n, want int64 }{
		{1, 0, 1}, {1, 1, 2}, {1, -1, 0}, {1, lastDay - 1, lastDay}, {1, lastDay, 0}, {lastDay, 0, lastDay}, {lastDay, 1, 0}, {lastDay, -1, lastDay - 1},
		{lastDay, -lastDay + 1, 1}, {lastDay, -lastDay, 0}, {d, 31, d + 31}, {d, -d, 0}, {d, -d + 1, 1}, {d, lastDay - d, lastDay}, {d, lastDay - d + 1, 0},
		{1, greatest, 0}, {lastDay, greatest, 0}, {1, -greatest, 0}, {lastDay, -greatest, 0}, {d, 1 << 32, 0}, {d, -1 << 32, 0},
	} { // 0 stands for over
		want := date(x.want)
		if x.want == 0 {
			want = overCell
		}
		worths(t, want, one, joined(api.QAdd, leaf(dayOf(x.day)), leaf(num(x.n))))
		worths(t, want, one, joined(api.QAdd, leaf(num(x.n)), leaf(dayOf(x.day))))
		worths(t, want, one, joined(api.QSub, leaf(dayOf(x.day)), leaf(num(-x.n))))
	}
	for _, x := range [][2]int64{{1, 1}, {1, lastDay}, {lastDay, 1}, {lastDay, lastDay}, {d, d + 7}, {d + 7, d}} {
		worths(t, number(x[0]-x[1]), one, joined(api.QSub, leaf(dayOf(x[0])), leaf(dayOf(x[1]))))
	}
	for _, op := range []int{api.QAdd, api.QSub} {
		worths(t, overCell, one, joined(op, overDay(), leaf(num(-1))))
		worths(t, overCell, one, joined(op, overDay(), leaf(num(1))))
		worths(t, overCell, one, joined(op, leaf(dayOf(5)), overNum()))
	}
	worths(t, overCell, one, joined(api.QAdd, overNum(), leaf(dayOf(5))))
	worths(t, overCell, one, joined(api.QAdd, leaf(num(-1)), overDay()))
	worths(t, overCell, one, joined(api.QSub, leaf(dayOf(5)), overDay()))
	worths(t, overCell, one, joined(api.QSub, overDay(), leaf(dayOf(5))))
}

// relations: what each of the six says of a left part that is below, alike to or above the right one.
var relations = map[int][3]bool{
	api.QEq: {false, true, false}, api.QNe: {true, false, true}, api.QLt: {true, false, false},
	api.QLe: {true, true, false}, api.QGt: {false, false, true}, api.QGe: {false, true, true},
}

// relate: all six of two expressions; side is 0, 1 or 2: the left one is below, alike to or above the right one.
func relate(t *testing.T, side int, left, right []api.Node) {
	t.Helper()
	for op, says := range relations {
		want := no()
		if says[side] {
			want = yes()
		}
		worths(t, want, one, joined(op, left, right))
	}
}

// rising: each of these is below those behind it, and alike to itself.
func rising(t *testing.T, l ...[]api.Node) {
	t.Helper()
	for i, left := range l {
		for j, right := range l {
			side := 1
			if i < j {
				side = 0
			}
			if i > j {
				side = 2
			}
			relate(t, side, left, right)
		}
	}
}

func TestP15_1Relations(t *testing.T) {
	var numbers, coins, days, texts [][]api.Node
	for _, n := range []int64{-greatest, -1 << 32, -2, -1, 0, 1, 255, 1 << 32, greatest - 1, greatest} {
		numbers = append(numbers, leaf(num(n)))
		coins = append(coins, coin(n))
	}
	rising(t, numbers...)
	rising(t, coins...)
	for i := range numbers {
		for j := range coins {
			side := 1
			if i != j {
				side = 0
			}
			if i > j {
				side = 2
			}
			relate(t, side, numbers[i], coins[j])
			relate(t, side, coins[i], numbers[j])
		}
	}
	for _, n := range []int64{1, 2, 255, 256, d, d + 1, lastDay - 1, lastDay} {
		days = append(days, leaf(dayOf(n)))
	}
	rising(t, days...)
	// Byte by byte, a beginning first; bytes above 127 are above all others, whatever letters they make.
	for _, s := range []string{"", "\x00", "\x00\x00", "A", "A-1", "A:B", "AB", "B", "a", "a\x00", "aa", "b", "\x7f", "\x80", "\x80a", "\xc3\xa4", "\xc3\xbf", "\xff", "\xff\x00"} {
		texts = append(texts, leaf(said(s)))
	}
	rising(t, texts...)
	for a := range int64(2) {
		for b := range int64(2) {
			equal, other := yes(), no()
			if a != b {
				equal, other = no(), yes()
			}
			worths(t, equal, one, joined(api.QEq, leaf(truth(a)), leaf(truth(b))))
			worths(t, other, one, joined(api.QNe, leaf(truth(a)), leaf(truth(b))))
		}
	}
}

// A part that is over makes every relation over, on either side.
func TestP15_1RelationsOver(t *testing.T) {
	for op := range relations {
		for _, x := range [][2][]api.Node{{overNum(), leaf(num(1))}, {overCoin(), coin(1)}, {overDay(), leaf(dayOf(1))}, {overNum(), coin(1)}, {overCoin(), leaf(num(1))}} {
			worths(t, overCell, one, joined(op, x[0], x[1]))
			worths(t, overCell, one, joined(op, x[1], x[0]))
			worths(t, overCell, one, joined(op, x[0], x[0]))
		}
	}
	for _, op := range []int{api.QEq, api.QNe} {
		for b := range int64(2) {
			worths(t, overCell, one, joined(op, overBool(), leaf(truth(b))))
			worths(t, overCell, one, joined(op, leaf(truth(b)), overBool()))
		}
		worths(t, overCell, one, joined(op, overBool(), overBool()))
	}
	for _, op := range []int{api.QAdd, api.QSub} {
		for _, x := range [][2][]api.Node{{overNum(), leaf(num(0))}, {overCoin(), coin(0)}} {
			worths(t, overCell, one, joined(op, x[0], x[1]))
			worths(t, overCell, one, joined(op, x[1], x[0]))
			worths(t, overCell, one, joined(op, x[0], x[0]))
		}
	}
	for _, x := range [][2][]api.Node{{overNum(), leaf(num(0))}, {overCoin(), leaf(num(0))}, {overNum(), coin(0)}} {
		worths(t, overCell, one, joined(api.QMul, x[0], x[1]))
		worths(t, overCell, one, joined(api.QMul, x[1], x[0]))
	}
}

func TestP15_1Under(t *testing.T) {
	for _, x := range []struct {
		name, top string
		want      bool
	}{
		{"Assets:Bank", "Assets", true}, {"Assets:Bank", "Assets:Bank", true}, {"Assets", "Assets:Bank", false}, {"A-1", "A", false}, {"A:B:C", "A:B", true}, {"A:B:C", "A", true},
		{"A:BC", "A:B", false}, {"x", "x", false}, {"", "", false}, {"A", "", false}, {"", "A", false}, {"A:b", "A", false}, {"A:B", "a", false}, {"A:", "A", false}, {":A", "", false},
		{"A:B:C:D:E:F", "A", true}, {"A:B:C:D:E:F:G", "A", false}, {"A:B", "B", false}, {"\xff:A", "\xff", false},
	} {
		want := no()
		if x.want {
			want = yes()
		}
		worths(t, want, one, joined(api.QUnder, leaf(said(x.name)), leaf(said(x.top))))
	}
	worths(t, yes(), one, joined(api.QUnder, leaf(fieldOf(api.FAccount)), leaf(fieldOf(api.FRoot))))
	worths(t, no(), one, joined(api.QUnder, leaf(fieldOf(api.FRoot)), leaf(fieldOf(api.FAccount))))
}

func TestP15_1Has(t *testing.T) {
	for _, x := range []struct {
		all, piece string
		want       bool
	}{
		{"", "", true}, {"abc", "", true}, {"abc", "a", true}, {"abc", "bc", true}, {"abc", "abc", true}, {"abc", "ac", false}, {"abc", "abcd", false}, {"", "a", false}, {"abc", "B", false},
		{"aab", "ab", true}, {"\x00\xff\x00", "\xff", true}, {"\xc3\xa4", "\xa4", true}, {"\xc3\xa4", "\xc3\xa4\xa4", false}, {"\xff", "\xfe", false}, {"a b", " ", true},
	} {
		want := no()
		if x.want {
			want = yes()
		}
		worths(t, want, one, joined(api.QHas, leaf(said(x.all)), leaf(said(x.piece))))
	}
}

// The left part decides, and where it does the right one is not asked.
func TestP15_1AndOr(t *testing.T) {
	parts := [][]api.Node{leaf(truth(0)), leaf(truth(1)), overBool()}
	o, f, y := overCell, no(), yes()
	for i, want := range [][3]api.Cell{{f, f, f}, {f, y, o}, {o, o, o}} {
		for j := range want {
			worths(t, want[j], one, joined(api.QAnd, parts[i], parts[j]))
		}
	}
	for i, want := range [][3]api.Cell{{f, y, o}, {y, y, y}, {o, o, o}} {
		for j := range want {
			worths(t, want[j], one, joined(api.QOr, parts[i], parts[j]))
		}
	}
	// Deeper: what is over behind a part that decides never counts.
	for _, left := range parts {
		for _, mid := range parts {
			for _, right := range parts {
				for _, outer := range []int{api.QAnd, api.QOr} {
					for _, inner := range []int{api.QAnd, api.QOr} {
						for _, nodes := range [][]api.Node{joined(outer, joined(inner, left, mid), right), joined(outer, left, joined(inner, mid, right))} {
							worths(t, plainWorthAt(nodes, one), one, nodes)
							worths(t, plainWorthAt(turned(api.QNot, nodes), one), one, turned(api.QNot, nodes))
						}
					}
				}
			}
		}
	}
}

// Every Op with every pair of expressions that fits, as the model says.
func TestP15_1EveryOp(t *testing.T) {
	all := [][]api.Node{overNum(), overCoin(), overDay(), overBool(), leaf(truth(0)), leaf(truth(1))}
	for _, n := range []int64{0, 1, -1, greatest, -greatest, lastDay} {
		all = append(all, leaf(num(n)), coin(n))
	}
	for _, n := range []int64{1, d, lastDay} {
		all = append(all, leaf(dayOf(n)))
	}
	for _, s := range []string{"", "A", "A:B", "\xff"} {
		all = append(all, leaf(said(s)))
	}
	for f := api.FSeq; f <= api.FRoot; f++ {
		all = append(all, leaf(fieldOf(f)))
	}
	fit := map[int]int{}
	for op := api.QOr; op <= api.QNeg; op++ {
		for _, left := range all {
			for _, right := range all {
				nodes := joined(op, left, right)
				if op == api.QNot || op == api.QNeg {
					nodes = turned(op, left)
				}
				if types := nodeTypes(nodes); types[len(nodes)-1] != 0 {
					fit[op]++
					worths(t, plainWorthAt(nodes, one), one, nodes)
				}
			}
		}
	}
	if len(fit) != 15 {
		t.Errorf("operations that fit: %v", fit)
	}
}

// What an Op does not use is not looked at.
func TestP15_1UnusedParts(t *testing.T) {
	for _, x := range []struct {
		n    api.Node
		want api.Cell
	}{
		{api.Node{Op: api.QNum, Num: 5, Left: -1, Right: 99, Field: 77, Text: "x"}, number(5)},
		{api.Node{Op: api.QText, Num: least, Left: -9, Right: 99, Field: 77, Text: "x"}, text("x")},
		{api.Node{Op: api.QDay, Num: 5, Left: -9, Right: 99, Field: 77, Text: "x"}, date(5)},
		{api.Node{Op: api.QBool, Num: 1, Left: -9, Right: 99, Field: 77, Text: "x"}, yes()},
		{api.Node{Op: api.QField, Field: api.FSeq, Num: least, Left: -9, Right: 99, Text: "x"}, number(3)},
	} {
		worths(t, x.want, one, leaf(x.n))
	}
	neg := []api.Node{num(5), {Op: api.QNeg, Left: 0, Right: -7, Field: 99, Num: least, Text: "x"}}
	worths(t, number(-5), one, neg)
	add := []api.Node{num(5), num(6), {Op: api.QAdd, Left: 0, Right: 1, Field: 99, Num: least, Text: "x"}}
	worths(t, number(11), one, add)
	not := []api.Node{truth(1), {Op: api.QNot, Left: 0, Right: 44, Field: 99, Num: 1, Text: "x"}}
	worths(t, no(), one, not)
}
