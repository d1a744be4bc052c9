package room

const maxSectors = 200

// noFuse stands for any number below 0: they all mean that steps are not counted.
const noFuse = -1

// Disk is sectors that are lasting when they are synced. Make it by NewDisk.
//
// What NewDisk answers with an error is nil; the calls take that for a disk
// without sectors, so that they panic on nothing that NewDisk answers.
type Disk struct {
	places []place
	fuse   int // steps that may still be made; below 0: any number
	dead   bool
}

// NewDisk makes a disk (P3).
func NewDisk(sectors int) (*Disk, Errno) {
	if sectors < 1 || sectors > maxSectors {
		return nil, ErrRange
	}
	return &Disk{places: make([]place, sectors), fuse: noFuse}, OK
}

// Sectors tells how many there are (P3).
func (d *Disk) Sectors() int {
	if d == nil {
		return 0
	}
	return len(d.places)
}

// Read tells a sector's bytes (P4). It changes nothing in the disk, so that
// many may read at the same time.
func (d *Disk) Read(i int) (string, Errno) {
	if d.isDead() {
		return "", ErrDead
	}
	if !d.has(i) {
		return "", ErrRange
	}
	now := d.places[i].now()
	return string(now[:]), OK
}

// Write writes a sector (P4).
func (d *Disk) Write(i int, data string) Errno {
	if d.isDead() {
		return ErrDead
	}
	// Ahead of the step: a write that may not be burns no fuse.
	if !d.has(i) || len(data) != sectorBytes {
		return ErrRange
	}
	if !d.step() {
		return ErrDead
	}
	var written sector
	copy(written[:], data)
	d.places[i].write(written)
	return OK
}

// Sync makes all that was written lasting (P4).
func (d *Disk) Sync() Errno {
	if d == nil {
		return OK
	}
	if d.dead || !d.step() {
		return ErrDead
	}
	for i := range d.places {
		d.places[i].keepAll()
	}
	return OK
}

// Fuse sets how many steps there are (P5).
func (d *Disk) Fuse(steps int) {
	if d == nil {
		return
	}
	d.fuse = steps
}

// Crash loses what is not lasting, but for what is kept (P5).
func (d *Disk) Crash(keep []int) {
	if d == nil {
		return
	}
	for i := range d.places {
		p := &d.places[i]
		if len(p.writes) == 0 {
			continue // the list has no number for it
		}
		kept := 0
		if len(keep) > 0 {
			kept, keep = keep[0], keep[1:]
		}
		p.keep(kept)
	}
	d.dead = false
	d.fuse = noFuse
}

func (d *Disk) isDead() bool { return d != nil && d.dead }

func (d *Disk) has(i int) bool { return i >= 0 && i < d.Sectors() }

// step tells whether one step more can be made, and counts it; if it can't,
// the disk is dead from then on.
func (d *Disk) step() bool {
	if d.fuse == 0 {
		d.dead = true
		return false
	}
	if d.fuse > 0 {
		d.fuse--
	}
	return true
}
