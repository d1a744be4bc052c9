package room_test

import (
	"math/rand"
	"slices"
	"testing"

	"room/room"
)

// model is a disk told as the document tells it, with every write in a list
// of its own: slow, and without anything in common with the program.
type model struct {
	states [][]string // of each sector: as it is lasting, then as each write made it
	fused  bool
	left   int
	dead   bool
}

func newModel(sectors int) *model {
	m := &model{}
	for range sectors {
		m.states = append(m.states, []string{blank})
	}
	return m
}

func (m *model) read(i int) (string, room.Errno) {
	switch {
	case m.dead:
		return "", room.ErrDead
	case i < 0 || i >= len(m.states):
		return "", room.ErrRange
	}
	return m.states[i][len(m.states[i])-1], room.OK
}

func (m *model) step() room.Errno {
	if m.fused && m.left == 0 {
		m.dead = true
	}
	if m.dead {
		return room.ErrDead
	}
	m.left--
	return room.OK
}

func (m *model) write(i int, data string) room.Errno {
	if !m.dead && (i < 0 || i >= len(m.states) || len(data) != sectorBytes) {
		return room.ErrRange
	}
	e := m.step()
	if e == room.OK {
		m.states[i] = append(m.states[i], data)
	}
	return e
}

func (m *model) sync() room.Errno {
	e := m.step()
	if e == room.OK {
		for i, s := range m.states {
			m.states[i] = []string{s[len(s)-1]}
		}
	}
	return e
}

func (m *model) fuse(steps int) { m.fused, m.left = steps >= 0, steps }

func (m *model) crash(keep []int) {
	for i, s := range m.states {
		if len(s) == 1 {
			continue
		}
		kept := 0
		if len(keep) > 0 {
			kept = min(max(keep[0], 0), len(s)-1)
			keep = keep[1:]
		}
		m.states[i] = []string{s[kept]}
	}
	m.fused, m.dead = false, false
}

// pair is a disk and its model, which must answer alike.
type pair struct {
	t *testing.T
	d *room.Disk
	m *model
}

func newPair(t *testing.T, sectors int) pair {
	return pair{t, newDisk(t, sectors), newModel(sectors)}
}

func (p pair) oneCall(r *rand.Rand) {
	p.t.Helper()
	i := r.Intn(p.d.Sectors()+2) - 1
	switch k := r.Intn(20); {
	case k < 12:
		data := full(string(rune('a' + r.Intn(3))))
		if r.Intn(10) == 0 {
			data = data[:r.Intn(sectorBytes)]
		}
		answers(p.t, "Write", p.d.Write(i, data), p.m.write(i, data))
	case k < 14:
		answers(p.t, "Sync", p.d.Sync(), p.m.sync())
	case k < 16:
		steps := r.Intn(12) - 2
		p.d.Fuse(steps)
		p.m.fuse(steps)
	case k < 18:
		keep := make([]int, r.Intn(8))
		for j := range keep {
			keep[j] = r.Intn(8) - 1
		}
		p.d.Crash(slices.Clone(keep))
		p.m.crash(keep)
	}
}

func (p pair) readAlike() {
	p.t.Helper()
	for i := -1; i <= p.d.Sectors(); i++ {
		got, ge := p.d.Read(i)
		want, we := p.m.read(i)
		if got != want || ge != we {
			p.t.Fatalf("Read(%d) = %q, %d, want %q, %d", i, got, ge, want, we)
		}
	}
}

func TestP3ToP5ADiskAnswersAsItsModel(t *testing.T) {
	for seed := range int64(300) {
		r := rand.New(rand.NewSource(seed))
		p := newPair(t, 1+r.Intn(6))
		for range 300 {
			p.oneCall(r)
			p.readAlike()
		}
	}
}

// P2: the calls of other disks in between are not to be seen.
func TestP2ADiskHangsOnItsOwnCallsAlone(t *testing.T) {
	r := rand.New(rand.NewSource(1))
	pairs := []pair{newPair(t, 3), newPair(t, 3), newPair(t, 5)}
	for range 5000 {
		pairs[r.Intn(len(pairs))].oneCall(r)
		for _, p := range pairs {
			p.readAlike()
		}
	}
}
