package script

import (
	"runtime"
	"slices"
	"sync"
	"testing"
	"time"

	"daybook/api"
)

func TestP19_2_Many(t *testing.T) {
	scripts := someScripts(20, 31)
	same(t, "32 scripts", len(scripts), 32)
	for _, n := range []int{0, 1, 2, 31, 32} {
		l, why := Many(scripts[:n])
		same(t, "its error", why, api.OK)
		same(t, "how many", len(l), n)
		for i := range n {
			same(t, "a trace", l[i], traceOf(t, scripts[i]))
		}
	}
	for _, n := range []int{33, 34, 1000} {
		if l, why := Many(make([]string, n)); len(l) != 0 || why != api.ErrMany {
			t.Errorf("%d: %d, %d", n, len(l), why)
		}
	}
	if l, why := Many(slices.Repeat(scripts[:1], 33)); len(l) != 0 || why != api.ErrMany {
		t.Errorf("%d, %d", len(l), why)
	}
	l, why := Many(nil)
	if len(l) != 0 || why != api.OK {
		t.Errorf("%v, %d", l, why)
	}
}

// TestP19_2_ManyFaults: where Run has an error the trace is empty; the others are as ever.
func TestP19_2_ManyFaults(t *testing.T) {
	good, bad := text(story()...), []string{"", "x", "daybook", "daybook 1 64 0\nlen 5", "daybook 1 64 0\nimport", "daybook 1 64 0\n\x00"}
	want := traceOf(t, good)
	for i := range 32 {
		texts := slices.Repeat([]string{good}, 32)
		texts[i] = bad[i%len(bad)]
		texts[(i*7+5)%32] = bad[(i+1)%len(bad)]
		l, why := Many(texts)
		same(t, "its error", why, api.OK)
		for j, got := range l {
			if texts[j] != good && got != "" || texts[j] == good && got != want {
				t.Fatalf("%d of %q: %s", j, texts[j], short(got))
			}
		}
	}
	l, why := Many(make([]string, 32))
	if len(l) != 32 || why != api.OK || slices.ContainsFunc(l, func(s string) bool { return s != "" }) {
		t.Errorf("%q %d", l, why)
	}
}

// TestP19_2_ManyAtOnce: several calls of Many and Run at one time know nothing of one another; and no goroutine is left.
func TestP19_2_ManyAtOnce(t *testing.T) {
	before := runtime.NumGoroutine()
	scripts := someScripts(21, 9)
	var want []string
	for _, in := range scripts {
		want = append(want, traceOf(t, in))
	}
	var wait sync.WaitGroup
	for range 6 {
		wait.Go(func() {
			if l, why := Many(scripts); why != api.OK || !slices.Equal(l, want) {
				t.Errorf("%d: %d traces", why, len(l))
			}
		})
		wait.Go(func() {
			for i, in := range scripts {
				if trace, err := Run(in); err != nil || trace != want[i] {
					t.Errorf("%d: %v", i, err)
				}
			}
		})
	}
	wait.Wait()
	for i := 0; runtime.NumGoroutine() > before; i++ {
		if i == 1000 {
			t.Fatalf("%d goroutines, and ahead of it %d", runtime.NumGoroutine(), before)
		}
		time.Sleep(time.Millisecond)
	}
}

// TestMemory: what is handed in stays as it is, and no list of an answer is another's.
func TestMemory(t *testing.T) {
	in := text(story()...)
	a, _ := Parse(in)
	b, _ := Parse(in)
	c, _ := Parse(in)
	for i := range a {
		all := a[i].Args[:cap(a[i].Args)]
		for j := range all {
			all[j] = "spoilt"
		}
		a[i].Word, a[i].Text = "spoilt", "spoilt"
		_ = append(a[:i], api.Command{})
	}
	same(t, "the other answer", b, c)
	d, _ := Parse(in)
	same(t, "a later one", d, c)

	for i := range b {
		keep := slices.Clone(b)
		for j := range keep {
			keep[j].Args = slices.Clone(keep[j].Args)
		}
		all := b[i].Args[:cap(b[i].Args)]
		for j := range all {
			all[j] = "spoilt"
		}
		for j := range b {
			if j != i {
				same(t, "another command of the same answer", append([]string{}, b[j].Args...), append([]string{}, keep[j].Args...))
			}
		}
	}

	texts := []string{in, "x", in}
	l, _ := Many(texts)
	same(t, "the texts", texts, []string{in, "x", in})
	m, _ := Many(texts)
	l = append(l[:0], make([]string, cap(l))...)
	same(t, "the other traces", m, []string{traceOf(t, in), "", traceOf(t, in)})
	_ = l
}
