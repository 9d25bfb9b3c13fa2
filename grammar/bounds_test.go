package grammar

import (
	"strings"
	"testing"

	"daybook/api"
)

func times(n int, s string) string { return strings.Repeat(s, n) }

// deepens: what counts for the depth, and what stands behind an expression in it.
var deepens = []struct{ front, end string }{{"(", ")"}, {"-", ""}, {"not ", ""}, {"-(", ")"}, {"not (", ")"}, {"(-", ")"}, {"(not -", ")"}}

// depthOf: how many of it there are in a text that has nothing else.
func depthOf(s string) int {
	return strings.Count(s, "(") + strings.Count(s, "-") + strings.Count(s, "not")
}

// reads: the text is read, as the model reads it.
func reads(t *testing.T, s string) {
	t.Helper()
	if _, at, why := Parse(s); why != api.OK {
		t.Errorf("Parse(%q): %d, %d", s, at, int(why))
		return
	}
	parsesAsPlain(t, s)
}

// MaxDeep of each, and one more.
func TestP13_1Depth(t *testing.T) {
	for _, x := range deepens[:3] {
		for _, c := range []struct {
			front, end string
			taken      int
		}{{"where ", " show count", 0}, {"where true and ", " show count", 0}, {"where 1 = 1 or\n", " show count", 0}, {"by day show sum(", ")", 1}, {"show count, min ( ", " ) , count", 1}} {
			n := api.MaxDeep - c.taken
			at := len(c.front) + n*len(x.front)
			reads(t, c.front+times(n, x.front)+"seq"+times(n, x.end)+c.end)
			fails(t, c.front+times(n+1, x.front)+"seq"+times(n+1, x.end)+c.end, at, api.ErrDeep)
			fails(t, c.front+times(n+1, x.front), at, api.ErrDeep)
			fails(t, c.front+times(n+1, x.front)+"\x00", at, api.ErrDeep)
			fails(t, c.front+times(n, x.front), at, api.ErrSyntax)
			fails(t, c.front+times(n, x.front)+"\x00", at, api.ErrSyntax)
		}
	}
}

// Mixed ones: just as many as MaxDeep, and each of them as the one that is too deep.
func TestP13_1DepthMixed(t *testing.T) {
	r := source(1)
	deep := map[string]int{}
	for range 2000 {
		front, end := "where ", " show count"
		if r.IntN(2) == 0 {
			front, end = "show max(", ")"
		}
		arithmetic := false
		last := ""
		for depthOf(front) < api.MaxDeep+r.IntN(2) {
			x := pick(r, deepens...)
			if strings.HasPrefix(x.front, "not") && arithmetic {
				continue // no not stands behind a sign
			}
			if depthOf(front+x.front) > api.MaxDeep+1 {
				continue
			}
			arithmetic = strings.HasSuffix(x.front, "-")
			front, end = front+x.front, x.end+end
			last = x.front
		}
		if _, why := parsesAsPlain(t, front+"day"+end); why == api.ErrDeep {
			deep[last]++
		}
	}
	if len(deep) != len(deepens) {
		t.Errorf("too deep: %v", deep)
	}
}

// Behind the end of each the depth is what it was ahead of it.
func TestP13_1DepthEnds(t *testing.T) {
	brackets := times(16, "(") + "1" + times(16, ")")
	nots := times(16, "not ") + "1"
	signs := times(16, "-") + "1"
	reads(t, conditioned(brackets+" + "+brackets+" - "+brackets+" * "+brackets+" = "+brackets))
	reads(t, conditioned(signs+" + "+signs+"*"+signs+" < "+signs+" and "+brackets))
	reads(t, conditioned(nots+" and "+nots+" or "+nots+" and "+brackets))
	// A not ends behind its relation, a sign behind its atom.
	fails(t, conditioned(nots+" = -1"), len(ahead+nots)+3, api.ErrDeep)
	fails(t, conditioned(nots+" + (1)"), len(ahead+nots)+3, api.ErrDeep)
	reads(t, conditioned(nots+" = 1 and -1 = (1) or not 1"))
	reads(t, conditioned(signs+" * -2 + -3 = (4)"))
	reads(t, conditioned("("+signs[1:]+" + -2) * -3"))
	fails(t, conditioned("("+signs+")"), len(ahead)+16, api.ErrDeep)
	// Brackets that are closed let others be opened, as many as were closed.
	front := "show sum(" + times(15, "(") + "1" + times(14, ")") + " + "
	reads(t, front+times(14, "(")+"1"+times(16, ")"))
	fails(t, front+times(15, "("), len(front)+14, api.ErrDeep)
	reads(t, "show sum("+times(15, "(")+"1"+times(16, ")")+", min("+times(15, "-")+"1), count, max("+times(15, "not ")+"1)")
}

// The part MaxNodes is the last one; the place is that of the one behind it, whatever it is.
func TestP13_1Parts(t *testing.T) {
	odd := "1" + times(99, "+1") // 199 parts
	reads(t, conditioned(odd))
	reads(t, conditioned("-"+odd))
	reads(t, conditioned("not "+odd))
	reads(t, "show max(((-("+odd+"))))")
	for _, token := range []string{"1", "0", "day", "2024-01-01", "'a'", "true", "false", "-1", "((1))"} {
		for _, op := range strings.Fields("or and = <> < <= > >= under has + - *") {
			front := ahead + odd + " " + op + " "
			fails(t, front+token+behind, len(front)+strings.Count(token, "("), api.ErrDeep)
			fails(t, front+token+" \x00", len(front)+strings.Count(token, "("), api.ErrDeep)
			fails(t, front+behind, len(front)+1, api.ErrSyntax)
		}
	}
	fails(t, ahead+odd+" or not 1", len(ahead+odd)+4, api.ErrDeep)
	for _, op := range strings.Fields("or and = <> < <= > >= under has + - *") {
		front := ahead + "(-" + odd + ") "
		fails(t, front+op+" 1"+behind, len(front), api.ErrDeep)
		fails(t, front+op, len(front), api.ErrDeep)
		fails(t, front+op+"\x00", len(front), api.ErrDeep)
	}
	// Parts of all expressions count, and nothing else: by's fields, keys' numbers, aggregates, brackets, commas.
	front := ahead + odd + " by day, day, tag show count, sum((("
	reads(t, front+"1))), count order 1, 2 desc, 3 limit 1")
	fails(t, front+"1))), count, max( 7)", len(front+"1))), count, max( "), api.ErrDeep)
	fails(t, front+"1))), count, max( -7)", len(front+"1))), count, max( "), api.ErrDeep)
	fails(t, front+"-1)))", len(front+"-"), api.ErrDeep)
	fails(t, front+"1))), count, max( )", len(front+"1))), count, max( "), api.ErrSyntax)
}

// A token that is at fault in two ways: ErrSyntax.
func TestP13_1TwoFaults(t *testing.T) {
	deep := times(16, "(")
	fails(t, ahead+deep+"1 + not", len(ahead)+16+4, api.ErrSyntax)
	fails(t, ahead+deep+"1 (", len(ahead)+16+2, api.ErrSyntax)
	fails(t, ahead+deep+"*", len(ahead)+16, api.ErrSyntax)
	fails(t, "show sum("+times(15, "not ")+"1 = not", 9+60+4, api.ErrSyntax)
	full := "-1" + times(99, "+1") // 200 parts
	for _, token := range []string{"9223372036854775808", "2024-02-30", "'a", "a", "day1", "1", "day", "not", "true", "'a'"} {
		fails(t, ahead+full+" "+token, len(ahead+full)+1, api.ErrSyntax)
	}
	fails(t, ahead+full+"++", len(ahead+full), api.ErrDeep)
	fails(t, ahead+full[1:]+"+9223372036854775808", len(ahead+full), api.ErrSyntax)
	fails(t, ahead+full[1:]+"+9223372036854775807", len(ahead+full), api.ErrDeep)
	// Too deep, and the part behind MaxNodes: one error at one place.
	fails(t, ahead+deep+full[1:]+" = -1", len(ahead+deep+full)+2, api.ErrDeep)
}

func TestP13_1Length(t *testing.T) {
	pad := func(s string, n int) string { return s + times(n-len(s), " ") }
	for _, blank := range []string{" ", "\t", "\n", "\r"} {
		parses(t, "show count"+times(590, blank), counts())
		parses(t, times(590, blank)+"show count", counts())
		fails(t, "show count"+times(591, blank), 600, api.ErrLong)
		fails(t, times(591, blank)+"show count", 600, api.ErrLong)
	}
	for _, s := range []string{"", "where", "\x00", "a", "where " + times(17, "("), "'", "show count count"} {
		fails(t, pad(s, 601), 600, api.ErrLong)
		fails(t, pad(s, 5000), 600, api.ErrLong)
		_, at, why := Parse(pad(s, 600))
		if wantAt, want := plainFault(t, pad(s, 600)); at != wantAt || why != want || why == api.ErrLong {
			t.Errorf("%q and blanks up to 600: %d, %d", s, at, int(why))
		}
	}
	fails(t, pad("where", 600), 600, api.ErrSyntax)
	text := times(600-len(conditioned("''")), "x")
	parses(t, conditioned("'"+text+"'"), counts(said(text)))
	fails(t, conditioned("'"+text+"x'"), 600, api.ErrLong)
	fails(t, times(1<<20, "("), 600, api.ErrLong)
}
