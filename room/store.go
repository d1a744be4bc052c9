package room

import "strings"

// minSectors is what the document asks for; the records take fewer.
const minSectors = 100

// Store is the events of a room. Make it by Open.
//
// What Open answers with an error is nil; the calls take that for a store that
// is down and has no events, so that they panic on nothing that Open answers.
type Store struct {
	disk   *Disk
	events []event
	down   bool
}

// Open opens the store of a disk (P6, P11).
func Open(d *Disk) (s *Store, e Errno) {
	if d.Sectors() < minSectors {
		return nil, ErrRange
	}
	if d.isDead() {
		return nil, ErrDead
	}
	defer func() {
		if recover() != nil {
			s, e = nil, ErrData
		}
	}()
	return &Store{disk: d, events: readEvents(d)}, OK
}

// Put puts an event (P7).
func (s *Store) Put(parents []int, body string) (int, Errno) {
	if e := s.mayPut(parents, body); e != OK {
		return 0, e
	}
	id := len(s.events)
	put := event{parents: listOf(parents), body: strings.Clone(body)}
	if e := putRecord(s.disk, id, put.record()); e != OK {
		s.down = true
		return 0, e
	}
	s.events = append(s.events, put)
	return id, OK
}

// mayPut tells what Put refuses ahead of any step.
func (s *Store) mayPut(parents []int, body string) Errno {
	switch {
	case s.isDown():
		return ErrDown
	case len(s.events) >= maxEvents || len(parents) > maxParents:
		return ErrMany
	case !areParents(parents, len(s.events)):
		return ErrParent
	case len(body) > maxBody:
		return ErrBody
	}
	return OK
}

// Forget forgets an event's body (P8).
func (s *Store) Forget(id int) Errno {
	if s.isDown() {
		return ErrDown
	}
	if !s.has(id) || s.events[id].forgotten {
		return ErrNone
	}
	more := s.events[id]
	less := more.forget()
	if e := cutRecord(s.disk, id, more.record(), less.record()); e != OK {
		s.down = true
		return e
	}
	s.events[id] = less
	return OK
}

// Count tells how many events there are (P9).
func (s *Store) Count() int {
	if s == nil {
		return 0
	}
	return len(s.events)
}

// Get tells an event (P9).
func (s *Store) Get(id int) ([]int, string, bool, Errno) {
	if !s.has(id) {
		return nil, "", false, ErrNone
	}
	e := s.events[id]
	return listOf(e.parents), e.body, e.forgotten, OK
}

// Heads tells the heads (P9).
func (s *Store) Heads() []int {
	if s == nil {
		return nil
	}
	return heads(s.events)
}

// Past tells an event's past (P9).
func (s *Store) Past(id int) ([]int, Errno) {
	if !s.has(id) {
		return nil, ErrNone
	}
	return past(s.events, id), OK
}

func (s *Store) isDown() bool { return s == nil || s.down }

func (s *Store) has(id int) bool { return id >= 0 && id < s.Count() }

// listOf copies a list. One without elements is nil, whatever it was: a store
// that is opened later can't tell either.
func listOf(list []int) []int {
	return append([]int(nil), list...)
}
