package room_test

import (
	"fmt"
	"math"
	"math/rand"
	"slices"
	"strings"
	"testing"

	"room/room"
)

// keeps are the lists that tell all crashes of up to three sectors with up to
// two open writes each.
func keeps() [][]int {
	var all [][]int
	for a := range 3 {
		for b := range 3 {
			for c := range 3 {
				all = append(all, []int{a, b, c})
			}
		}
	}
	return all
}

// P10

func TestP10AStoreWhoseDiskDiesIsDown(t *testing.T) {
	for _, c := range []call{put("short", 0), put("a body of 20 bytes..", 0, 1), forget(1), forget(2)} {
		for fuse := 0; ; fuse++ {
			d, s, n := filled(t, minSectors, put("short"), put("a long one of bytes.", 0), put("b"), forget(0))
			d.Fuse(fuse)
			id, e := c.on(s)
			if e == room.OK {
				break
			}
			if id != 0 || e != room.ErrDead {
				t.Fatalf("%v with a fuse of %d = %d, %d", c, fuse, id, e)
			}
			isDown(t, s, n)
			d.Fuse(-1)
			isDown(t, s, n)
			staysDown(t, d, s, n)
		}
	}
}

// staysDown holds that a store that is down leaves the disk alone, even one
// that could be written to again.
func staysDown(t *testing.T, d *room.Disk, s *room.Store, n notes) {
	t.Helper()
	d.Crash(nil)
	before := sectors(t, d)
	d.Fuse(0)
	isDown(t, s, n)
	if !slices.Equal(sectors(t, d), before) {
		t.Fatalf("a store that is down has written")
	}
}

func isDown(t *testing.T, s *room.Store, n notes) {
	t.Helper()
	for _, parents := range [][]int{nil, {0}, {99}, {0, 1, 2, 3}} {
		if id, e := s.Put(parents, strings.Repeat("x", 30)); id != 0 || e != room.ErrDown {
			t.Fatalf("Put of a store that is down = %d, %d", id, e)
		}
	}
	for _, id := range []int{math.MinInt, -1, 0, 1, 99} {
		answers(t, "Forget of a store that is down", s.Forget(id), room.ErrDown)
	}
	alike(t, "a store that is down", s, n)
}

func TestP10OnADeadDisk(t *testing.T) {
	for _, c := range []call{put("a"), forget(1)} {
		d, s, n := filled(t, minSectors, put("a"), put("b", 0), forget(0))
		d.Fuse(0)
		d.Sync()
		alike(t, "a dead disk", s, n)
		for _, refused := range []call{put("", 5), put("", 0, 0, 0, 0), put(strings.Repeat("x", 21)), forget(0), forget(2)} {
			n = made(t, s, n, refused)
		}
		if id, e := c.on(s); id != 0 || e != room.ErrDead {
			t.Fatalf("%v on a dead disk = %d, %d", c, id, e)
		}
		isDown(t, s, n)
	}
}

func TestP10WithoutAFuseNothingDies(t *testing.T) {
	for _, steps := range []int{-1, math.MinInt, math.MaxInt, 4 * len(everything())} {
		d := newDisk(t, minSectors)
		d.Fuse(steps)
		s := open(t, d)
		var n notes
		for _, c := range everything() {
			n = made(t, s, n, c)
		}
		alike(t, "no step is missing", s, n)
	}
}

func TestP10ADownStoreHasWhatWasThereAheadOfIt(t *testing.T) {
	calls := everything()
	for i, c := range calls {
		d, s, n := filled(t, minSectors, calls[:i]...)
		d.Fuse(1)
		if id, e := c.on(s); id != 0 || e != room.ErrDead {
			t.Fatalf("%v with a fuse of 1 = %d, %d", c, id, e)
		}
		isDown(t, s, n)
	}
}

// P11

// crashed makes a disk by calls of which the last one runs on a fuse, if any
// is told, and crashes it. It answers the disk, and whether the last one was
// acknowledged.
func crashed(t *testing.T, calls []call, fuse int, keep []int) (*room.Disk, bool) {
	t.Helper()
	last := len(calls) - 1
	d, s, _ := filled(t, minSectors, calls[:last]...)
	d.Fuse(fuse)
	_, e := calls[last].on(s)
	if e != room.OK {
		answers(t, "the last call", e, room.ErrDead)
	}
	d.Crash(keep)
	return d, e == room.OK
}

// either tells which of two notes a store is as, and fails if it is as none.
func either(t *testing.T, what string, s *room.Store, before, after notes) notes {
	t.Helper()
	if after.differs(s) == "" {
		return after
	}
	alike(t, what, s, before)
	return before
}

// stays opens a disk again and again, and each time a new one too that has
// just its sectors. It answers the last of the new ones.
func stays(t *testing.T, what string, d *room.Disk, n notes) *room.Disk {
	t.Helper()
	twin := d
	for _, keep := range [][]int{nil, {1, 1, 1}, {0, 1}} {
		twin = diskOf(t, sectors(t, twin))
		alike(t, what+": a new disk", open(t, twin), n)
		alike(t, what+": opened again", open(t, d), n)
		d.Crash(keep)
		alike(t, what+": crashed again", open(t, d), n)
	}
	return twin
}

// cutOff cuts the last one of some calls off at each of its steps, with each
// list of what the crash keeps.
func cutOff(t *testing.T, calls ...call) {
	t.Helper()
	last := len(calls) - 1
	_, _, before := filled(t, minSectors, calls[:last]...)
	_, _, after := filled(t, minSectors, calls...)
	for fuse, done := 0, false; !done; fuse++ {
		for _, keep := range keeps() {
			d, ok := crashed(t, calls, fuse, keep)
			what := fmt.Sprint(calls[last], " fuse ", fuse, " keep ", keep)
			is := either(t, what, open(t, d), before, after)
			if ok {
				alike(t, what+": acknowledged", open(t, d), after)
				done = true
			}
			twin := stays(t, what, d, is)
			goesOn(t, what, d, is)
			goesOn(t, what+": a new disk", twin, is)
		}
	}
}

func TestP11AnyCrashAtAnyStep(t *testing.T) {
	calls := everything()
	for i := range calls {
		cutOff(t, calls[:i+1]...)
	}
}

func TestP11ABodyOfAnyLengthIsWholeOrNotThere(t *testing.T) {
	for length := range maxBody + 1 {
		body := strings.Repeat("\x00", length/2) + strings.Repeat("\xff", length-length/2)
		cutOff(t, put("ahead"), put(body, 0))
		cutOff(t, put("ahead"), put(body, 0), forget(1))
	}
}

func TestP11AFullRoomIsForgotten(t *testing.T) {
	puts := slices.DeleteFunc(everything(), func(c call) bool { return c.id >= 0 })
	for _, step := range []int{5, 11} { // mixed, falling
		calls := slices.Clone(puts)
		for i := range maxEvents {
			calls = append(calls, forget((i+1)*step%maxEvents))
			cutOff(t, calls...)
		}
		d, _, n := filled(t, minSectors, calls...)
		d.Crash(nil)
		for id := range maxEvents {
			if parents, body, forgotten, e := open(t, d).Get(id); body != "" || !forgotten || e != room.OK {
				t.Fatalf("Get(%d) of what is all forgotten = %v, %q, %v, %d", id, parents, body, forgotten, e)
			}
			n = made(t, open(t, d), n, forget(id))
		}
		made(t, open(t, d), n, put(""))
	}
}

// goesOn makes some more calls on a disk that has crashed, so that whatever
// was left behind could come to light.
func goesOn(t *testing.T, what string, d *room.Disk, n notes) {
	t.Helper()
	for _, c := range []call{put("a body of 20 bytes.."), put("short"), forget(0), forget(1)} {
		n = made(t, open(t, d), n, c)
		alike(t, what, open(t, d), n)
		d.Crash(nil)
		alike(t, what, open(t, d), n)
	}
}

// What one call leaves behind must not come to life when the next one fails
// too: there is that one, whole, or none.
func TestP11TwoCrashesInARow(t *testing.T) {
	ahead := []call{put("zero"), put("a body of 20 bytes..", 0)}
	_, _, n := filled(t, minSectors, ahead...)
	kinds := []call{put(""), put("short", 1), put("the same 11 behind it", 0, 1), put("the same 11 other end", 0, 1), put("the same 11"), put(strings.Repeat("\x00", maxBody), 0), forget(0), forget(1)}
	for i := range kinds {
		kinds[i].body = kinds[i].body[:min(len(kinds[i].body), maxBody)]
	}
	for _, first := range kinds {
		for _, second := range kinds {
			for fuse := range 16 {
				for _, keep := range keeps() {
					twoCrashes(t, n, append(ahead[:2:2], first), second, fuse, keep)
				}
			}
		}
	}
}

func twoCrashes(t *testing.T, n notes, calls []call, second call, fuse int, keep []int) {
	t.Helper()
	what := fmt.Sprint(calls[2], " then ", second, " fuse ", fuse, " keep ", keep)
	d, _ := crashed(t, calls, fuse%4, keep)
	after, _, _ := calls[2].noted(n)
	n = either(t, what, open(t, d), n, after)
	s := open(t, d)
	d.Fuse(fuse / 4)
	_, e := second.on(s)
	d.Crash([]int{keep[1], keep[2], keep[0]})
	after, _, want := second.noted(n)
	switch {
	case want != room.OK:
		answers(t, what, e, want)
		alike(t, what, open(t, d), n)
	case e == room.OK:
		alike(t, what, open(t, d), after)
	default:
		answers(t, what, e, room.ErrDead)
		either(t, what, open(t, d), n, after)
	}
}

func TestP11ManyCrashes(t *testing.T) {
	for seed := range int64(300) {
		r := rand.New(rand.NewSource(seed))
		d := newDisk(t, minSectors+r.Intn(maxSectors-minSectors+1))
		var n notes
		for range 100 {
			s := open(t, d)
			alike(t, "opened", s, n)
			n = oneLife(t, r, d, s, n)
			alike(t, "opened again", open(t, d), n)
		}
	}
}

// oneLife uses a store till its disk dies, and crashes that.
func oneLife(t *testing.T, r *rand.Rand, d *room.Disk, s *room.Store, n notes) notes {
	t.Helper()
	d.Fuse(r.Intn(7))
	perhaps := n
	for range 4 {
		c := anyCall(r, len(n))
		id, e := c.on(s)
		after, wantID, want := c.noted(n)
		if want == room.OK && e == room.ErrDead {
			perhaps = after
			break
		}
		if id != wantID || e != want {
			t.Fatalf("%v = %d, %d, want %d, %d", c, id, e, wantID, want)
		}
		n, perhaps = after, after
	}
	alike(t, "a store ahead of the crash", s, n)
	keep := make([]int, 4)
	for i := range keep {
		keep[i] = r.Intn(4) - 1
	}
	d.Crash(keep)
	return either(t, "crashed", open(t, d), n, perhaps)
}

func TestP11ManyFailuresTakeNoRoom(t *testing.T) {
	d := newDisk(t, minSectors)
	var n notes
	for _, c := range everything() {
		for range 50 {
			s := open(t, d)
			d.Fuse(1)
			if _, e := c.on(s); e != room.ErrDead {
				t.Fatalf("%v with a fuse of 1 = %d", c, e)
			}
			d.Crash(nil)
			alike(t, "nothing is kept", open(t, d), n)
		}
		n = made(t, open(t, d), n, c)
	}
	alike(t, "at the end", open(t, d), n)
}

// A disk that has what stores have written, but not lasting: the first call
// that is acknowledged makes all of it lasting, or its own event would stand
// on nothing.
func TestP11AnAcknowledgedCallStandsOnWhatIsLasting(t *testing.T) {
	written, _, before := filled(t, minSectors, everything()[:6]...)
	for _, c := range []call{put("short", 0), put("a body of 20 bytes..", 2), forget(1), forget(3)} {
		d := newDisk(t, minSectors)
		for i, s := range sectors(t, written) {
			answers(t, "Write", d.Write(i, s), room.OK)
		}
		n := made(t, open(t, d), before, c)
		d.Crash(nil)
		alike(t, c.String(), open(t, d), n)
	}
}

// P2

// history makes calls on a disk, with fuses and crashes, and tells the sectors
// that each of its lives left.
func history(t *testing.T, seed int64) [][]string {
	t.Helper()
	r := rand.New(rand.NewSource(seed))
	d := newDisk(t, minSectors)
	var left [][]string
	for range 20 {
		s := open(t, d)
		d.Fuse(r.Intn(12) - 1)
		for range 5 {
			anyCall(r, s.Count()).on(s)
		}
		d.Crash([]int{r.Intn(2), r.Intn(2)})
		left = append(left, sectors(t, d))
	}
	return left
}

func TestP2TheSameHistoryLeavesTheSameSectors(t *testing.T) {
	for seed := range int64(100) {
		one, two := history(t, seed), history(t, seed)
		for i := range one {
			if !slices.Equal(one[i], two[i]) {
				t.Fatalf("seed %d: two disks differ behind crash %d", seed, i)
			}
		}
	}
}
