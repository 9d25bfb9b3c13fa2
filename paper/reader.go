package paper

import (
	"strings"

	"daybook/api"
	"daybook/event"
)

// reader reads a journal's lines, one behind the other.
type reader struct {
	digits  int
	readers map[lineSort]func(line string) api.Errno // what is done with a line of each sort; a reason is wrapped with the line's place
	number  int                                      // of the line that is read
	posting *posting                                 // the one that a leg belongs to; nil, if there is none
	events  []api.Event
}

func newReader(digits int) *reader {
	r := &reader{digits: digits}
	r.readers = map[lineSort]func(string) api.Errno{
		emptyLine:  r.pass,
		remarkLine: r.pass,
		legLine:    r.leg,
		entryLine:  r.entry,
	}
	return r
}

func (r *reader) read(text string) error {
	for left := text; left != ""; {
		line, behind, _ := strings.Cut(left, lineEnd)
		left = behind
		r.number++
		if err := r.line(line); err != nil {
			return err
		}
	}
	return r.end()
}

func (r *reader) line(line string) error {
	sort, place := look(line)
	// The posting's fault comes ahead of all that the line which ends it is at fault for, its length too.
	if sort.endsPosting() {
		if err := r.end(); err != nil {
			return err
		}
	}
	if len(line) > api.MaxLine {
		return wrapped(r.number, api.MaxLine, api.ErrLong)
	}
	return wrapped(r.number, place, r.readers[sort](line))
}

func (r *reader) pass(string) api.Errno { return api.OK }

func (r *reader) leg(line string) api.Errno {
	l, is := leg(line, r.digits)
	if r.posting == nil || !is {
		return api.ErrPaper
	}
	r.posting.Lines = append(r.posting.Lines, l)
	return api.OK
}

func (r *reader) entry(line string) api.Errno {
	if e, is := head(line); is {
		r.posting = &posting{Event: e, head: r.number}
		return api.OK
	}
	e, why := event.Parse(line, r.digits)
	if why != api.OK {
		return api.ErrPaper
	}
	r.events = append(r.events, e)
	return api.OK
}

// end puts the posting that is under way, if one is, behind the events.
func (r *reader) end() error {
	p := r.posting
	r.posting = nil
	if p == nil {
		return nil
	}
	p.fill()
	if isBad(p.Event) {
		return wrapped(p.head, 0, api.ErrPaper)
	}
	r.events = append(r.events, p.Event)
	return nil
}
