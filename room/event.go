package room

const (
	maxEvents  = 12
	maxParents = 3
	maxBody    = 20
)

// event is what was put. The parents are below its own number, so that going
// down from an event meets all of its past.
type event struct {
	parents   []int
	body      string
	forgotten bool
}

// forget leaves what stays of an event.
func (e event) forget() event {
	return event{parents: e.parents, forgotten: true}
}

// areParents tells whether these may be the parents of the event that comes
// behind so many others.
func areParents(parents []int, count int) bool {
	least := 0
	for _, p := range parents {
		if p < least || p >= count {
			return false
		}
		least = p + 1
	}
	return true
}

// marks has one for each event that may be.
type marks [maxEvents]bool

func (m *marks) add(numbers []int) {
	for _, n := range numbers {
		m[n] = true
	}
}

// below tells which of the first count events are marked so, rising.
func (m *marks) below(count int, marked bool) []int {
	var numbers []int
	for n := range count {
		if m[n] == marked {
			numbers = append(numbers, n)
		}
	}
	return numbers
}

func heads(events []event) []int {
	var parents marks
	for _, e := range events {
		parents.add(e.parents)
	}
	return parents.below(len(events), false)
}

func past(events []event, id int) []int {
	var reached marks
	reached.add(events[id].parents)
	for n := id - 1; n >= 0; n-- {
		if reached[n] {
			reached.add(events[n].parents)
		}
	}
	return reached.below(id, true)
}
