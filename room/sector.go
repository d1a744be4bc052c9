package room

import "math"

const sectorBytes = 16

// sector is an array, not a slice: what one write has left behind is a value
// of its own, which no later write reaches.
type sector [sectorBytes]byte

// run is writes of the same bytes, one behind the other. A crash counts
// writes, but which of equal ones is the last that it keeps is not to be seen.
type run struct {
	bytes sector
	times int
}

// place is where one sector of a disk lies. All writes since the last sync
// are held, because a crash may go back to any of them.
type place struct {
	lasting sector
	writes  []run
}

// now tells what was written last, lasting or not.
func (p *place) now() sector {
	if n := len(p.writes); n > 0 {
		return p.writes[n-1].bytes
	}
	return p.lasting
}

// write adds a write. One of the bytes that are lasting already counts too:
// the crash's list has a number for it.
func (p *place) write(s sector) {
	if n := len(p.writes); n > 0 && p.writes[n-1].bytes == s {
		p.writes[n-1].times++
		return
	}
	p.writes = append(p.writes, run{bytes: s, times: 1})
}

// keep makes lasting what the first n writes made, and drops the others. Any
// n will do: below 0 it keeps none, above their number all.
func (p *place) keep(n int) {
	for _, r := range p.writes {
		if n <= 0 {
			break
		}
		p.lasting = r.bytes
		n -= r.times
	}
	p.writes = nil
}

func (p *place) keepAll() { p.keep(math.MaxInt) }
