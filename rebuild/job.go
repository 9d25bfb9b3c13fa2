package rebuild

import (
	"iter"

	"daybook/api"
	"daybook/store"
)

// Job is a rebuild under way.
type Job struct {
	log  *store.Log
	at   int // not the set's own number: behind the end of the job others go on with the set
	set  Set
	made bool
}

// Begin begins one over a log.
func Begin(l *store.Log) *Job { return &Job{log: l} }

// Step takes at most k records more; true: it was at the end already, and the set is made.
func (j *Job) Step(k int) (bool, api.Errno) {
	if k < 1 {
		return false, api.ErrArg
	}
	j.made = j.made || j.atEnd()
	if j.made {
		return true, api.OK
	}
	// It lives no longer than the step, since nobody is bound to come for another one.
	next, stop := iter.Pull(j.set.taking(j.log, j.at))
	defer stop()
	for range k {
		why, more := next()
		if !more {
			break
		}
		if why != api.OK {
			return false, why
		}
		j.at++
	}
	return false, api.OK
}

// atEnd: whether all records are taken that there are. A job that nobody began has no log, and so none to take.
func (j *Job) atEnd() bool { return j.log == nil || j.at == j.log.Len() }

// At is how many it has taken; Set the set, when it is made (else nil).
func (j *Job) At() int { return j.at }
func (j *Job) Set() *Set {
	if !j.made {
		return nil
	}
	return &j.set
}
