package paper

import (
	"slices"
	"strings"
	"testing"

	"daybook/api"
)

func TestExample1Books(t *testing.T) {
	reads(t, joined("; my books", "", "open 2024-01-01 Assets asset"), 2, api.Event{Kind: api.KOpen, Day: 738886, Account: "Assets", Type: api.Asset})
	reads(t, "", 2)
}

// rentLines: those of example 2.
var rentLines = []string{`post 2024-02-01 x1 "rent"`, "  Assets:Bank  -5.00 #flat", "  ; what for", "\tAssets:Cust:Ann"}

func TestExample2Rent(t *testing.T) {
	want := api.Event{Kind: api.KPost, Day: 738917, Key: "x1", Memo: "rent", Lines: []api.Line{{Account: "Assets:Bank", Amount: -500, Tag: "flat"}, {Account: "Assets:Cust:Ann", Amount: 500}}}
	reads(t, joined(rentLines...), 2, want)
	reads(t, strings.Join(rentLines, "\n"), 2, want)
	prints(t, []api.Event{want}, 2, `post 2024-02-01 x1 "rent"
  Assets:Bank      -5.00 #flat
  Assets:Cust:Ann   5.00
`)
}

func TestExample3Postings(t *testing.T) {
	refuses(t, joined(append(slices.Clone(rentLines), " Assets")...), 2, 1, 0, api.ErrPaper)
	refuses(t, joined(rentLines[0], " A 5", " B -5", " C"), 2, 1, 0, api.ErrPaper)
	refuses(t, rentLines[0], 2, 1, 0, api.ErrPaper)
	refuses(t, rentLines[0]+strings.Repeat("\n A 1", 13), 2, 1, 0, api.ErrPaper)
	reads(t, "post 2024-02-01 x1"+strings.Repeat("\n A 1", 12), 0, post(slices.Repeat([]api.Line{line("A", 1)}, 12)...))
}

func TestExample4Places(t *testing.T) {
	refuses(t, "  Assets 5", 2, 1, 2, api.ErrPaper)
	refuses(t, joined("post 2024-02-01 x1", " A 5", " B -5", "", "  Assets 5"), 2, 5, 2, api.ErrPaper)
	refuses(t, joined("post 2024-02-01 x1", "", "  Assets 5"), 2, 1, 0, api.ErrPaper)
	refuses(t, joined("post 2024-02-01 x1", "  assets 5"), 2, 2, 2, api.ErrPaper)
	refuses(t, "close 2024-13-01 Assets", 2, 1, 0, api.ErrPaper)
	refuses(t, " open 2024-01-01 Assets asset", 2, 1, 1, api.ErrPaper)
}

func TestExample5OneLine(t *testing.T) {
	reads(t, "post 2024-02-01 x1 A 5, B -5", 2, post(line("A", 500), line("B", -500)))
	refuses(t, joined("post 2024-02-01 x1 A 5, B -5", " C 1"), 2, 2, 1, api.ErrPaper)
}

func TestExample6Bounds(t *testing.T) {
	refuses(t, strings.Repeat(";", 2001), 2, 1, 2000, api.ErrLong)
	refuses(t, "", 7, 0, 0, api.ErrArg)
}
