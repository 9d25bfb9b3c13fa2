package aged

// turn: on a day a claim's age, or what is open of it, changes.
type turn struct {
	day   int
	claim *claim
}

// turns is a heap by days: no turn is of an earlier day than the one above it, at half its place.
type turns []turn

// push puts a turn in.
func (h *turns) push(t turn) {
	l := append(*h, t)
	for i := len(l) - 1; i > 0; {
		up := (i - 1) / 2
		if l[up].day <= l[i].day {
			break
		}
		l[up], l[i] = l[i], l[up]
		i = up
	}
	*h = l
}

// pop takes a turn of the earliest day out. There must be one.
func (h *turns) pop() turn {
	l := *h
	first, last := l[0], len(l)-1
	l[0] = l[last]
	// The room behind the end is to keep no claim.
	l[last] = turn{}
	l = l[:last]
	for i := 0; ; {
		least := l.least(i, 2*i+1, 2*i+2)
		if least == i {
			break
		}
		l[least], l[i] = l[i], l[least]
		i = least
	}
	*h = l
	return first
}

// least is the first of these places, or one of the others that is there and of an earlier day.
func (h turns) least(at int, others ...int) int {
	for _, i := range others {
		if i < len(h) && h[i].day < h[at].day {
			at = i
		}
	}
	return at
}
