package room

// The kinds of records, from those that have less to those that have more:
// each has what the one ahead of it has. A head of which all bytes are 0 is no
// record.
const (
	bare  byte = iota + 1 // a forgotten event: its parents
	short                 // and a body that the head has room for
	long                  // and the rest of that, in the tail
)

// What lies where in a head.
const (
	kindAt    = 0
	parentsAt = 1 // a parent's number and 1, so that 0 is no parent
	lengthAt  = parentsAt + maxParents
	bodyAt    = lengthAt + 1
	headRoom  = sectorBytes - bodyAt
)

// record is how an event lies on the disk. A disk writes one sector whole or
// not at all, but two of them in any order: so the head alone tells what is
// there, and it is written when the tail that it tells of is lasting.
type record struct {
	head, tail sector
}

func headOf(number int) int { return 2 * number }

func tailOf(number int) int { return 2*number + 1 }

func (r record) kind() byte { return r.head[kindAt] }

func (e event) kind() byte {
	switch {
	case e.forgotten:
		return bare
	case len(e.body) <= headRoom:
		return short
	}
	return long
}

// record tells how an event is written.
func (e event) record() record {
	var r record
	r.head[kindAt] = e.kind()
	switch r.kind() {
	case long:
		copy(r.tail[:], e.body[headRoom:])
		fallthrough
	case short:
		r.head[lengthAt] = byte(len(e.body))
		copy(r.head[bodyAt:], e.body)
		fallthrough
	case bare:
		for i, p := range e.parents {
			r.head[parentsAt+i] = byte(p + 1)
		}
	}
	return r
}

// event tells what was written. Of a wrong record it makes an event that would
// be written otherwise, or it gives up.
func (r record) event() event {
	e := event{forgotten: true}
	length := int(r.head[lengthAt])
	switch r.kind() {
	case long:
		insist(length > headRoom && length <= maxBody)
		e.body = string(r.tail[:length-headRoom])
		fallthrough
	case short:
		e.body = string(r.head[bodyAt:bodyAt+min(length, headRoom)]) + e.body
		e.forgotten = false
		fallthrough
	case bare:
		for _, p := range r.head[parentsAt:lengthAt] {
			if p > 0 {
				e.parents = append(e.parents, int(p)-1)
			}
		}
	default:
		insist(false)
	}
	return e
}

// insist gives up if what was read from the disk is wrong. Open catches that.
func insist(right bool) {
	if !right {
		panic(ErrData)
	}
}

// readEvent reads the event of that number, and tells whether it is there.
func readEvent(d *Disk, number int) (event, bool) {
	r := readRecord(d, number)
	if r.head == (sector{}) {
		return event{}, false
	}
	e := r.event()
	insist(areParents(e.parents, number))
	insist(e.record() == r) // one event is written in one way alone
	return e, true
}

// readRecord leaves a tail alone that the head does not tell of: a put that
// was not ended may have left anything there.
func readRecord(d *Disk, number int) record {
	r := record{head: readSector(d, headOf(number))}
	if r.kind() == long {
		r.tail = readSector(d, tailOf(number))
	}
	return r
}

// putRecord writes the record of an event that is new.
func putRecord(d *Disk, number int, r record) Errno {
	if r.kind() == long {
		if e := lay(d, tailOf(number), r.tail); e != OK {
			return e
		}
	}
	return lay(d, headOf(number), r.head)
}

// cutRecord writes a record that has less over one that has more. The tail is
// wiped when nothing tells of it any more: what is forgotten is not to stay.
func cutRecord(d *Disk, number int, more, less record) Errno {
	if e := lay(d, headOf(number), less.head); e != OK {
		return e
	}
	if more.kind() == long {
		return lay(d, tailOf(number), less.tail)
	}
	return OK
}

// lay writes a sector and makes it lasting.
func lay(d *Disk, i int, s sector) Errno {
	if e := d.Write(i, string(s[:])); e != OK {
		return e
	}
	return d.Sync()
}

func readSector(d *Disk, i int) sector {
	data, e := d.Read(i)
	insist(e == OK)
	var s sector
	copy(s[:], data)
	return s
}
