package store

import (
	"bytes"
	"slices"
	"testing"

	"daybook/api"
)

func TestP4_1Frame(t *testing.T) {
	r := source()
	for n := range api.MaxRecord + 1 {
		rec := anyBytes(r, n)
		kept := bytes.Clone(rec)
		b, e := Frame(rec)
		if e != api.OK || !bytes.Equal(b, framed(string(kept))) {
			t.Fatalf("Frame of %d bytes: % x, error %d", n, b, int(e))
		}
		if !bytes.Equal(rec, kept) {
			t.Fatalf("Frame changed its record of %d bytes", n)
		}
	}
	for _, n := range []int{api.MaxRecord + 1, 65535, 65536, 65536 + 5, 1 << 20} {
		if b, e := Frame(make([]byte, n)); b != nil || e != api.ErrLong {
			t.Errorf("Frame of %d bytes: %d bytes, error %d", n, len(b), int(e))
		}
	}
}

func TestP4_1FrameIsNewMemory(t *testing.T) {
	rec := []byte("abcdef")
	b, _ := Frame(rec[:3])
	c, _ := Frame(rec[:3])
	rec[0] = 'X'
	_ = append(b, "more"...)
	clear(b)
	same(t, "the other frame", string(c), string(framed("abc")))
	same(t, "the record", string(rec), "Xbcdef")
}

func scanned(t *testing.T, b []byte, recs []string, n int) {
	t.Helper()
	kept := bytes.Clone(b)
	got, end := Scan(b)
	if end != n || len(got) != len(recs) {
		t.Errorf("Scan(% x): %q, %d, want %q, %d", b, got, end, recs, n)
		return
	}
	for i, rec := range got {
		same(t, "a record", string(rec), recs[i])
	}
	if !bytes.Equal(b, kept) {
		t.Errorf("Scan changed % x to % x", kept, b)
	}
}

func TestP4_2Scan(t *testing.T) {
	scanned(t, nil, nil, 0)
	scanned(t, []byte{}, nil, 0)
	for _, recs := range [][]string{{""}, {"", ""}, {"a"}, {"abc", "", "de"}, {text(api.MaxRecord)}, {text(api.MaxRecord), "", text(api.MaxRecord)}} {
		b := framedAll(recs)
		scanned(t, b, recs, len(b))
		for cut := range framed(recs[len(recs)-1]) {
			if cut > 20 && cut < len(framed(recs[len(recs)-1]))-20 {
				continue
			}
			whole := framedAll(recs[:len(recs)-1])
			scanned(t, b[:len(whole)+cut], recs[:len(recs)-1], len(whole))
		}
	}
}

// Bytes that are whole, and no frame all the same.
func TestP4_2NoFrames(t *testing.T) {
	good := framed("good")
	wrong := map[string][]byte{
		"a sum that is another":                  {1, 0, 0xfe, 0xff, 0, 0, 0, 0, 'a'},
		"a sum with its highest byte first":      {3, 0, 0xfc, 0xff, 0x35, 0x24, 0x41, 0xc2, 'a', 'b', 'c'},
		"the length with its high byte first":    append([]byte{0, 1, 0xff, 0xfe}, framed("a")[4:]...),
		"no opposite length":                     append([]byte{1, 0, 1, 0}, framed("a")[4:]...),
		"a wrong low byte of the opposite":       append([]byte{1, 0, 0xff, 0xff}, framed("a")[4:]...),
		"a wrong high byte of the opposite":      append([]byte{1, 0, 0xfe, 0xfe}, framed("a")[4:]...),
		"a record that is too long":              framed(text(api.MaxRecord + 1)),
		"the longest length that two bytes tell": framed(text(65535)),
		"zeros":                                  make([]byte, 100),
		"ones":                                   bytes.Repeat([]byte{0xff}, 100),
	}
	for what, b := range wrong {
		t.Log(what)
		scanned(t, b, nil, 0)
		scanned(t, slices.Concat(good, b, good), []string{"good"}, len(good))
	}
}

func TestP4_2ScanIsNewMemory(t *testing.T) {
	b := framedAll([]string{"abc", "", "defg", ""})
	one, _ := Scan(b)
	two, _ := Scan(b)
	clear(b)
	for i := range one {
		_ = append(one[i], "long enough to run over"...)
		clear(one[i])
	}
	for i, rec := range []string{"abc", "", "defg", ""} {
		same(t, "another answer", string(two[i]), rec)
	}
	for i := range two {
		for k := range two {
			if i != k {
				spare := two[i][:cap(two[i])]
				clear(spare[len(two[i]):])
			}
		}
	}
	same(t, "a record beside others' spare room", string(two[0])+string(two[2]), "abcdefg")
	_ = append(one[:1], nil)
	same(t, "the list of another answer", string(two[2]), "defg")
}

// frames can be left in the midst.
func TestP4_2FramesEndWhereTheyAreLeft(t *testing.T) {
	b := framedAll([]string{"a", "bc", "def"})
	var places []int
	for at := range frames(b) {
		places = append(places, at)
		if len(places) == 2 {
			break
		}
	}
	if !slices.Equal(places, []int{0, 9}) {
		t.Errorf("places %v", places)
	}
}

func TestP4_7FramesThereAndBack(t *testing.T) {
	r := source()
	for range 3000 {
		var recs []string
		for range r.IntN(6) {
			recs = append(recs, string(anyBytes(r, []int{0, 1, r.IntN(40), r.IntN(300)}[r.IntN(4)])))
		}
		b := framedAll(recs)
		scanned(t, b, recs, len(b))
		torn := framed(string(anyBytes(r, r.IntN(50))))
		torn = torn[:r.IntN(len(torn))]
		scanned(t, slices.Concat(b, torn), recs, len(b))
	}
}

// Whatever the bytes are: what Scan tells, framed, is their beginning.
func TestP4_7AnyBytes(t *testing.T) {
	r := source()
	for range 5000 {
		b := anyBytes(r, r.IntN(30))
		for range r.IntN(4) {
			b = slices.Concat(b, framed(string(anyBytes(r, r.IntN(12)))))
		}
		if r.IntN(2) == 0 { // a beginning that is a frame
			b = slices.Concat(framed(string(anyBytes(r, r.IntN(5)))), b)
		}
		if len(b) > 0 && r.IntN(2) == 0 {
			b[r.IntN(len(b))] ^= 1 << r.IntN(8)
		}
		want, rest := unframed(b)
		scanned(t, b, want, len(b)-len(rest))
		got, end := Scan(b)
		var laid []byte
		for _, rec := range got {
			f, e := Frame(rec)
			if e != api.OK {
				t.Fatalf("Scan told a record of %d bytes", len(rec))
			}
			laid = append(laid, f...)
		}
		if end != len(laid) || !bytes.HasPrefix(b, laid) {
			t.Fatalf("Scan(% x): %q, %d", b, got, end)
		}
	}
}

func TestP4_9EveryBitOfAFrame(t *testing.T) {
	for _, rec := range []string{"", "a", "hello", text(40)} {
		frame := framed(rec)
		for bit := range 8 * len(frame) {
			b := bytes.Clone(frame)
			b[bit/8] ^= 1 << (bit % 8)
			scanned(t, b, nil, 0)
		}
	}
}

// Every beginning of a frame is a torn end; nothing else is.
func TestP4_3TornEnds(t *testing.T) {
	r := source()
	for n := range api.MaxRecord + 1 {
		frame := framed(string(anyBytes(r, n)))
		for cut := 0; cut < len(frame); cut++ {
			if !isTorn(frame[:cut]) {
				t.Fatalf("the first %d bytes of the frame of %d are no torn end", cut, n)
			}
			if cut == 12 && n > 40 {
				cut = len(frame) - 12
			}
		}
		if isTorn(frame) {
			t.Fatalf("the whole frame of %d bytes is a torn end", n)
		}
	}
	for a := range 256 {
		same(t, "one byte", isTorn([]byte{byte(a)}), true)
		for b := range 256 {
			two := []byte{byte(a), byte(b)}
			same(t, "two bytes", isTorn(two), a+256*b <= api.MaxRecord)
			if b > 9 {
				continue
			}
			for c := range 256 {
				three := append(two[:2:2], byte(c))
				same(t, "three bytes", isTorn(three), a+256*b <= api.MaxRecord && a+c == 255)
			}
			for d := range 256 {
				four := append(two[:2:2], byte(255-a), byte(d))
				same(t, "four bytes", isTorn(four), a+256*b <= api.MaxRecord && b+d == 255)
			}
		}
	}
}

func TestP4_3TornEndsByTheModel(t *testing.T) {
	r := source()
	for range 3000 {
		b := framed(string(anyBytes(r, r.IntN(20))))
		b = b[:r.IntN(len(b)+1)]
		if len(b) > 0 && r.IntN(2) == 0 {
			b[r.IntN(len(b))] ^= 1 << r.IntN(8)
		}
		b = append(b, anyBytes(r, r.IntN(3))...)
		if isTorn(b) != tornEnd(b) {
			t.Fatalf("isTorn(% x): %v", b, isTorn(b))
		}
	}
}
