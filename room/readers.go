package room

import "sync"

// finding is what one reader brings from the disk.
type finding struct {
	event event
	there bool
	fault any
}

// read reads one event. A panic can't be caught in another goroutine than its
// own, so that it is kept till all readers are done.
func (f *finding) read(d *Disk, number int) {
	defer func() { f.fault = recover() }()
	f.event, f.there = readEvent(d, number)
}

// readEvents reads all records at the same time, each into a place of its own:
// which one is read first is not to be seen.
func readEvents(d *Disk) []event {
	var findings [maxEvents]finding
	var readers sync.WaitGroup
	for number := range findings {
		readers.Add(1)
		go func() {
			defer readers.Done()
			findings[number].read(d, number)
		}()
	}
	readers.Wait()
	return line(findings[:])
}

// line tells the events that were found. No event comes behind one that is
// missing.
func line(findings []finding) []event {
	var events []event
	for number, f := range findings {
		if f.fault != nil {
			panic(f.fault)
		}
		if f.there {
			insist(number == len(events))
			events = append(events, f.event)
		}
	}
	return events
}
