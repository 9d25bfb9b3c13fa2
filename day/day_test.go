package day

import (
	"testing"
	"time"

	"daybook/api"
)

func TestP2_1Dates(t *testing.T) {
	for _, x := range []struct {
		d Date
		n int
	}{
		{Date{1, 1, 1}, api.MinDay},
		{Date{1, 1, 2}, 2},
		{Date{1, 12, 31}, 365},
		{Date{2, 1, 1}, 366},
		{Date{4, 12, 31}, 1461},
		{Date{5, 1, 1}, 1462},
		{Date{100, 12, 31}, 36524},
		{Date{400, 12, 31}, 146097},
		{Date{401, 1, 1}, 146098},
		{Date{1970, 1, 1}, 719163},
		{Date{2000, 2, 29}, 730179},
		{Date{2024, 2, 29}, 738945},
		{Date{9999, 12, 31}, api.MaxDay},
	} {
		n, e := From(x.d)
		wantDay(t, n, e, x.n, api.OK, "From(%v)", x.d)
		if d, e := To(x.n); d != x.d || e != api.OK {
			t.Errorf("To(%d): %v, %d; want %v", x.n, d, int(e), x.d)
		}
	}
}

func TestP2_1WrongDates(t *testing.T) {
	for _, d := range []Date{
		{},
		{1900, 2, 29}, {2000, 2, 30}, {2023, 2, 29}, {2024, 2, 30}, {2100, 2, 29},
		{0, 12, 31}, {-1, 1, 1}, {10000, 1, 1}, {most, 1, 1}, {least, 1, 1},
		{5, 0, 1}, {5, 13, 1}, {5, -1, 1}, {5, most, 1}, {5, least, 1},
		{5, 1, 0}, {5, 1, 32}, {5, 4, 31}, {5, 6, 31}, {5, 9, 31}, {5, 11, 31}, {5, 1, -1}, {5, 1, most}, {5, 1, least},
		{most, most, most}, {least, least, least},
	} {
		n, e := From(d)
		wantDay(t, n, e, 0, api.ErrDay, "From(%v)", d)
	}
	for _, n := range noDays() {
		if d, e := To(n); d != (Date{}) || e != api.ErrDay {
			t.Errorf("To(%d): %v, %d", n, d, int(e))
		}
	}
}

// Each month's days all are dates, and none beside them.
func TestP2_1EndsOfMonths(t *testing.T) {
	for _, year := range []int{1, 4, 100, 400, 1900, 2000, 2023, 2024, 9999} {
		for month := -1; month <= 14; month++ {
			for inMonth := -1; inMonth <= 33; inMonth++ {
				is := month >= 1 && month <= 12 && inMonth >= 1 && inMonth <= plainDays(year, month)
				if n, e := From(Date{year, month, inMonth}); (e == api.OK) != is || (n == 0) == is {
					t.Errorf("From(%d-%d-%d): %d, %d", year, month, inMonth, n, int(e))
				}
			}
		}
	}
}

func TestP2_2Add(t *testing.T) {
	for _, x := range []struct {
		n, days, want int
		wantErr       api.Errno
	}{
		{730179, 366, 730545, api.OK},
		{1, 0, 1, api.OK},
		{1, api.MaxDay - 1, api.MaxDay, api.OK},
		{api.MaxDay, 1 - api.MaxDay, 1, api.OK},
		{api.MaxDay, 0, api.MaxDay, api.OK},
		{2, -1, 1, api.OK},
		{1, -1, 0, api.ErrDay},
		{1, api.MaxDay, 0, api.ErrDay},
		{api.MaxDay, 1, 0, api.ErrDay},
		{api.MaxDay, -api.MaxDay, 0, api.ErrDay},
		{5, most, 0, api.ErrDay},
		{5, least, 0, api.ErrDay},
		{1, most, 0, api.ErrDay},
		{1, least, 0, api.ErrDay},
		{api.MaxDay, most, 0, api.ErrDay},
		{api.MaxDay, least, 0, api.ErrDay},
		{0, 5, 0, api.ErrDay},
		{-4, 5, 0, api.ErrDay},
		{api.MaxDay + 1, -1, 0, api.ErrDay},
		{most, least, 0, api.ErrDay},
		{least, most, 0, api.ErrDay},
		{least, least, 0, api.ErrDay},
		{most, most, 0, api.ErrDay},
	} {
		n, e := Add(x.n, x.days)
		wantDay(t, n, e, x.want, x.wantErr, "Add(%d, %d)", x.n, x.days)
	}
}

func TestP2_3AddMonths(t *testing.T) {
	for _, x := range []struct {
		from   Date
		months int
		to     Date
	}{
		{Date{2024, 1, 31}, 1, Date{2024, 2, 29}},
		{Date{2024, 1, 31}, 13, Date{2025, 2, 28}},
		{Date{2024, 1, 31}, -1, Date{2023, 12, 31}},
		{Date{2024, 1, 31}, 0, Date{2024, 1, 31}},
		{Date{2024, 1, 31}, 3, Date{2024, 4, 30}},
		{Date{2024, 1, 30}, 1, Date{2024, 2, 29}},
		{Date{2024, 1, 28}, 1, Date{2024, 2, 28}},
		{Date{2023, 12, 15}, 1, Date{2024, 1, 15}},
		{Date{2023, 11, 15}, 1, Date{2023, 12, 15}},
		{Date{2024, 2, 29}, 12, Date{2025, 2, 28}},
		{Date{2024, 2, 29}, 48, Date{2028, 2, 29}},
		{Date{2024, 2, 29}, -12, Date{2023, 2, 28}},
		{Date{2024, 2, 29}, -1, Date{2024, 1, 29}},
		{Date{1, 1, 31}, 1, Date{1, 2, 28}},
		{Date{1, 1, 1}, 9999*12 - 1, Date{9999, 12, 1}},
		{Date{9999, 12, 31}, 1 - 9999*12, Date{1, 1, 31}},
		{Date{9999, 12, 31}, -1, Date{9999, 11, 30}},
		{Date{1, 2, 5}, -1, Date{1, 1, 5}},
	} {
		n, e := AddMonths(on(t, x.from.Year, x.from.Month, x.from.Day), x.months)
		wantDay(t, n, e, on(t, x.to.Year, x.to.Month, x.to.Day), api.OK, "AddMonths(%v, %d)", x.from, x.months)
	}
}

func TestP2_3WrongMonths(t *testing.T) {
	for _, x := range []struct{ n, months int }{
		{api.MaxDay, 1},
		{on(t, 1, 1, 31), -1},
		{on(t, 1, 12, 31), -12},
		{on(t, 9999, 1, 1), 12},
		{1, 9999 * 12},
		{api.MaxDay, -9999 * 12},
		{1, most}, {1, least}, {api.MaxDay, most}, {api.MaxDay, least},
		{730179, most}, {730179, most - 24000}, {730179, least}, {730179, least + 24000},
		{0, 0}, {0, 1}, {api.MaxDay + 1, -1}, {api.MaxDay + 1, 0}, {-1, 12},
		{most, least}, {least, most}, {most, most}, {least, least},
	} {
		n, e := AddMonths(x.n, x.months)
		wantDay(t, n, e, 0, api.ErrDay, "AddMonths(%d, %d)", x.n, x.months)
	}
}

// The month counted on one by one, the day kept or cut.
func TestP2_3MonthByMonth(t *testing.T) {
	for _, start := range []Date{{1, 1, 31}, {4, 2, 29}, {1999, 10, 30}, {9990, 5, 28}} {
		n := on(t, start.Year, start.Month, start.Day)
		d := start
		for months := 0; months <= 9999*12; months++ {
			want, wantErr := 0, api.ErrDay
			if d.Year <= 9999 {
				cut := Date{d.Year, d.Month, min(start.Day, plainDays(d.Year, d.Month))}
				want, wantErr = on(t, cut.Year, cut.Month, cut.Day), api.OK
			}
			got, e := AddMonths(n, months)
			wantDay(t, got, e, want, wantErr, "AddMonths(%v, %d)", start, months)
			if d.Month++; d.Month > 12 {
				d.Year, d.Month = d.Year+1, 1
			}
		}
	}
}

func TestP2_4MonthsEndsAndWeek(t *testing.T) {
	for _, x := range []struct{ n, first, last, week int }{
		{1, 1, 31, 1},
		{7, 1, 31, 7},
		{8, 1, 31, 1},
		{31, 1, 31, 3},
		{32, 32, 59, 4},
		{719163, 719163, 719193, 4},
		{730179, 730151, 730179, 2},
		{api.MaxDay, api.MaxDay - 30, api.MaxDay, 5},
	} {
		first, e := First(x.n)
		wantDay(t, first, e, x.first, api.OK, "First(%d)", x.n)
		last, e := Last(x.n)
		wantDay(t, last, e, x.last, api.OK, "Last(%d)", x.n)
		week, e := Week(x.n)
		wantDay(t, week, e, x.week, api.OK, "Week(%d)", x.n)
	}
	for _, n := range noDays() {
		first, e := First(n)
		wantDay(t, first, e, 0, api.ErrDay, "First(%d)", n)
		last, e := Last(n)
		wantDay(t, last, e, 0, api.ErrDay, "Last(%d)", n)
		week, e := Week(n)
		wantDay(t, week, e, 0, api.ErrDay, "Week(%d)", n)
	}
}

func TestP2_5Leap(t *testing.T) {
	for _, year := range []int{2000, 2024, 4, 400, 1600, 2400, 9996, 0, -4, -400, -2000, -2024, 1 << 62, least} {
		if !Leap(year) {
			t.Errorf("Leap(%d): false", year)
		}
	}
	for _, year := range []int{1900, 2023, 2100, 1, 2, 3, 100, 9999, -1, -2, -3, -5, -100, -300, -1900, most, least + 1} {
		if Leap(year) {
			t.Errorf("Leap(%d): true", year)
		}
	}
	for year := -2000; year <= 12000; year++ {
		if Leap(year) != plainLeap(year) {
			t.Errorf("Leap(%d): %v", year, Leap(year))
		}
	}
}

func TestP2_5Days(t *testing.T) {
	for year := -2; year <= 10002; year++ {
		for month := -1; month <= 14; month++ {
			want, wantErr := 0, api.ErrDay
			if year >= 1 && year <= 9999 && month >= 1 && month <= 12 {
				want, wantErr = plainDays(year, month), api.OK
			}
			n, e := Days(year, month)
			wantDay(t, n, e, want, wantErr, "Days(%d, %d)", year, month)
		}
	}
	for _, x := range [][2]int{{most, 1}, {least, 1}, {5, most}, {5, least}, {least, least}, {most, most}} {
		n, e := Days(x[0], x[1])
		wantDay(t, n, e, 0, api.ErrDay, "Days(%d, %d)", x[0], x[1])
	}
}

// Every day there is, against a calendar that goes on by 2.1's words alone: P2.1, P2.4 and P2.6 at all days.
func TestP2_7EveryDayThereAndBack(t *testing.T) {
	last, lastText := 0, ""
	for n, want := range calendar() {
		last = n
		d, e := To(n)
		if d != want || e != api.OK {
			t.Fatalf("To(%d): %v, %d; want %v", n, d, int(e), want)
		}
		if back, e := From(d); back != n || e != api.OK {
			t.Fatalf("From(%v): %d, %d; want %d", d, back, int(e), n)
		}
		text, e := Print(n)
		if e != api.OK || text != plainText(want) {
			t.Fatalf("Print(%d): %q, %d", n, text, int(e))
		}
		if text <= lastText {
			t.Fatalf("the text %q of the day %d is not behind %q", text, n, lastText)
		}
		lastText = text
		if back, e := Parse(text); back != n || e != api.OK {
			t.Fatalf("Parse(%q): %d, %d; want %d", text, back, int(e), n)
		}
	}
	if last != api.MaxDay {
		t.Errorf("the calendar ends at %d", last)
	}
}

func TestP2_8Steps(t *testing.T) {
	for n := api.MinDay; n <= api.MaxDay; n++ {
		if week, e := Week(n); week != (n-1)%7+1 || e != api.OK {
			t.Fatalf("Week(%d): %d, %d", n, week, int(e))
		}
	}
	for n := api.MinDay; n+146097 <= api.MaxDay; n += 13 {
		d, _ := To(n)
		later, _ := To(n + 146097)
		if d.Year += 400; later != d {
			t.Fatalf("To(%d + 146097): %v; want %v", n, later, d)
		}
		week, _ := Week(n)
		if laterWeek, _ := Week(n + 146097); laterWeek != week {
			t.Fatalf("Week(%d + 146097): %d; want %d", n, laterWeek, week)
		}
	}
}

func TestP2_8AddTwice(t *testing.T) {
	r := source()
	for range 20000 {
		n, a, b := anyDay(r), r.IntN(2*api.MaxDay)-api.MaxDay, r.IntN(2*api.MaxDay)-api.MaxDay
		once, e := Add(n, a)
		if e != api.OK {
			continue
		}
		twice, e := Add(once, b)
		want, wantErr := Add(n, a+b)
		wantDay(t, twice, e, want, wantErr, "Add(Add(%d, %d), %d)", n, a, b)
	}
}

func TestP2_9Months(t *testing.T) {
	for n, d := range calendar() {
		first, e := First(n)
		if e != api.OK || first != n-d.Day+1 || first > n {
			t.Fatalf("First(%d): %d, %d", n, first, int(e))
		}
		last, e := Last(n)
		if e != api.OK || last < n || last-first+1 != plainDays(d.Year, d.Month) {
			t.Fatalf("Last(%d): %d, %d", n, last, int(e))
		}
	}
}

func TestP2_9AYearOn(t *testing.T) {
	for n, d := range calendar() {
		on, e := AddMonths(n, 12)
		if d.Year == 9999 {
			if on != 0 || e != api.ErrDay {
				t.Fatalf("AddMonths(%d, 12): %d, %d", n, on, int(e))
			}
			continue
		}
		want := Date{d.Year + 1, d.Month, d.Day}
		if d.Month == 2 && d.Day == 29 && !plainLeap(want.Year) {
			want.Day = 28
		}
		if got, _ := To(on); got != want || e != api.OK {
			t.Fatalf("AddMonths(%d, 12): %v, %d; want %v", n, got, int(e), want)
		}
	}
}

func TestP2_9ThereAndBackByMonths(t *testing.T) {
	r := source()
	for range 50000 {
		n, a := anyDay(r), r.IntN(24000)-12000
		there, e := AddMonths(n, a)
		if e != api.OK {
			continue
		}
		back, e := AddMonths(there, -a)
		d, _ := To(n)
		between, _ := To(there)
		want := n - d.Day + min(d.Day, between.Day)
		wantDay(t, back, e, want, api.OK, "AddMonths(AddMonths(%d, %d), %d)", n, a, -a)
	}
}

// A second calendar that nobody here wrote.
func TestP2_7AsTheLibraryCountsDays(t *testing.T) {
	zero := time.Date(1, 1, 1, 0, 0, 0, 0, time.UTC).AddDate(0, 0, -1)
	r := source()
	for range 20000 {
		n := anyDay(r)
		x := zero.AddDate(0, 0, n)
		d, e := To(n)
		if d != (Date{x.Year(), int(x.Month()), x.Day()}) || e != api.OK {
			t.Fatalf("To(%d): %v, %d; want %v", n, d, int(e), x)
		}
		week, _ := Week(n)
		if int(x.Weekday()) != week%7 {
			t.Fatalf("Week(%d): %d; want %v", n, week, x.Weekday())
		}
	}
}
