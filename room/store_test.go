package room_test

import (
	"math"
	"math/rand"
	"runtime"
	"slices"
	"strings"
	"testing"
	"unsafe"

	"room/room"
)

func newStore(t *testing.T) *room.Store {
	t.Helper()
	return open(t, newDisk(t, minSectors))
}

// filled makes a disk by such calls, which all must be right, and their notes.
func filled(t *testing.T, sectors int, calls ...call) (*room.Disk, *room.Store, notes) {
	t.Helper()
	d := newDisk(t, sectors)
	s := open(t, d)
	var n notes
	for _, c := range calls {
		if _, _, e := c.noted(n); e != room.OK {
			t.Fatalf("the test's call %v is wrong: %d", c, e)
		}
		n = made(t, s, n, c)
	}
	return d, s, n
}

// everything has all kinds of events: bodies of all sizes, with no parent to
// three, forgotten and not; and as many as there may be.
func everything() []call {
	return []call{
		put(""), put("a"), put("eleven byte", 0), put("twelve bytes", 0, 1), forget(2),
		put(strings.Repeat("x", maxBody), 1, 2, 3), put("\x00", 4), put(strings.Repeat("\x00", maxBody)),
		put(strings.Repeat("\xff", maxBody), 0, 5, 6), forget(4), forget(0), put("ä\n", 7), put("", 8),
		forget(6), put("nineteen bytes long", 9), put("the last but one", 1, 9, 10), forget(11), forget(9),
	}
}

// P6

func TestP6OpenRefusesSmallDisksAndNone(t *testing.T) {
	none, _ := room.NewDisk(0)
	for _, d := range []*room.Disk{nil, none} {
		if s, e := room.Open(d); s != nil || e != room.ErrRange {
			t.Errorf("Open(nil) = %v, %d", s != nil, e)
		}
	}
	for n := 1; n < minSectors; n++ {
		for _, d := range []*room.Disk{newDisk(t, n), deadDisk(t, n)} {
			if s, e := room.Open(d); s != nil || e != room.ErrRange {
				t.Fatalf("Open of %d sectors = %v, %d", n, s != nil, e)
			}
		}
	}
}

func TestP6OpenOfABlankDiskHasNoEvents(t *testing.T) {
	for n := minSectors; n <= maxSectors; n++ {
		d := newDisk(t, n)
		alike(t, "a new disk", open(t, d), nil)
		for i := range n {
			answers(t, "Write", d.Write(i, full("x")), room.OK)
			answers(t, "Write", d.Write(i, blank), room.OK)
		}
		alike(t, "a disk that is 0 again", open(t, d), nil)
	}
}

func TestP6OpenOfADeadDisk(t *testing.T) {
	for _, n := range []int{minSectors, minSectors + 1, maxSectors} {
		d, _, notes := filled(t, n, everything()...)
		for _, d := range []*room.Disk{deadDisk(t, n), d} {
			d.Fuse(0)
			d.Sync()
			if s, e := room.Open(d); s != nil || e != room.ErrDead {
				t.Errorf("Open of a dead disk of %d = %v, %d", n, s != nil, e)
			}
		}
		d.Crash(nil)
		alike(t, "not dead any more", open(t, d), notes)
	}
	foreign := diskOf(t, slices.Repeat([]string{full("\xff")}, minSectors))
	foreign.Fuse(0)
	foreign.Sync()
	if s, e := room.Open(foreign); s != nil || e != room.ErrDead {
		t.Errorf("Open of a dead disk with wrong sectors = %v, %d", s != nil, e)
	}
}

func TestP6OpenMakesNoStep(t *testing.T) {
	d, _, n := filled(t, minSectors, everything()...)
	foreign := diskOf(t, slices.Repeat([]string{full("\xff")}, minSectors))
	for _, d := range []*room.Disk{d, newDisk(t, minSectors), foreign} {
		before := sectors(t, d)
		d.Fuse(0)
		for range 5 {
			room.Open(d)
		}
		if !slices.Equal(sectors(t, d), before) {
			t.Errorf("Open has changed the disk")
		}
		d.Fuse(1)
		room.Open(d)
		answers(t, "the one step", d.Sync(), room.OK)
		answers(t, "the step behind it", d.Sync(), room.ErrDead)
		d.Crash(nil)
	}
	alike(t, "opened", open(t, d), n)
}

func TestP6OpenMakesNothingLasting(t *testing.T) {
	d := newDisk(t, minSectors)
	copied, _, n := filled(t, minSectors, put("a"))
	for i, s := range sectors(t, copied) {
		answers(t, "Write", d.Write(i, s), room.OK)
	}
	alike(t, "what is written is read, lasting or not", open(t, d), n)
	d.Crash(nil)
	alike(t, "and is lost if nothing has made it lasting", open(t, d), nil)
}

func TestP6OpenOfWhatStoresHaveWritten(t *testing.T) {
	calls := everything()
	for _, size := range []int{minSectors, maxSectors} {
		for i := range len(calls) + 1 {
			d, s, n := filled(t, size, calls[:i]...)
			alike(t, "the store", s, n)
			for range 3 {
				alike(t, "opened again", open(t, d), n)
			}
			alike(t, "with its sectors", open(t, diskOf(t, sectors(t, d))), n)
			d.Crash([]int{1, 1, 1})
			alike(t, "crashed", open(t, d), n)
		}
	}
}

func TestP6EveryCallByAStoreOfItsOwn(t *testing.T) {
	for _, crash := range []bool{false, true} {
		d := newDisk(t, minSectors)
		var n notes
		for _, c := range everything() {
			n = made(t, open(t, d), n, c)
			if crash {
				d.Crash(nil)
			}
			alike(t, "opened again", open(t, d), n)
		}
	}
}

// workOut uses whatever a disk that no store has written opens as. A store is
// as good as any other then.
func workOut(t *testing.T, d *room.Disk) {
	t.Helper()
	s, e := room.Open(d)
	if e != room.OK {
		if s != nil || e != room.ErrData {
			t.Fatalf("Open of a foreign disk = %v, %d", s != nil, e)
		}
		return
	}
	n := notesOf(t, s)
	alike(t, "a foreign disk", s, n)
	for _, c := range []call{put("left"), put("a body of 20 bytes..", 0), forget(0), forget(len(n))} {
		n = made(t, s, n, c)
	}
	alike(t, "a foreign disk", s, n)
	alike(t, "a foreign disk, opened again", open(t, d), n)
	d.Fuse(1)
	forget(1).on(s)
	put("and more").on(s)
	d.Crash([]int{1})
	if s, e := room.Open(d); e != room.OK {
		answers(t, "Open of a foreign disk that has crashed", e, room.ErrData)
	} else {
		alike(t, "a foreign disk that has crashed", s, notesOf(t, s))
	}
}

// notesOf takes a store at its word.
func notesOf(t *testing.T, s *room.Store) notes {
	t.Helper()
	var n notes
	for id := range s.Count() {
		parents, body, forgotten, e := s.Get(id)
		answers(t, "Get", e, room.OK)
		n = append(n, told{parents, body, forgotten})
	}
	return n
}

func TestP6OpenOfForeignDisks(t *testing.T) {
	r := rand.New(rand.NewSource(6))
	for i := range 256 {
		workOut(t, diskOf(t, slices.Repeat([]string{full(string([]byte{byte(i)}))}, minSectors)))
	}
	for range 2000 {
		all := make([]string, minSectors)
		for i := range all {
			var b [sectorBytes]byte
			for j := range b {
				b[j] = byte(r.Intn(1 + r.Intn(256)))
			}
			all[i] = string(b[:])
		}
		workOut(t, diskOf(t, all))
	}
}

func TestP6OpenOfDisksWithOneByteChanged(t *testing.T) {
	d, _, _ := filled(t, minSectors, everything()...)
	right := sectors(t, d)
	for i := range right {
		for j := range sectorBytes {
			for _, c := range []byte{0, 1, 2, 3, 4, 12, 13, 21, 255} {
				all := slices.Clone(right)
				b := []byte(all[i])
				b[j] = c
				all[i] = string(b)
				workOut(t, diskOf(t, all))
			}
		}
	}
}

func TestP6OpenOfDisksWithSectorsThatAreNotTheirs(t *testing.T) {
	d, _, _ := filled(t, minSectors, everything()...)
	right := sectors(t, d)
	r := rand.New(rand.NewSource(7))
	for i := range right {
		all := slices.Clone(right)
		all[i] = blank
		workOut(t, diskOf(t, all))
		r.Shuffle(len(all), func(i, j int) { all[i], all[j] = all[j], all[i] })
		workOut(t, diskOf(t, all))
		workOut(t, diskOf(t, slices.Concat(right[i:], right[:i])))
	}
}

// Anybody may write to a disk that stores have written to, and not all of it
// need be lasting when it crashes.
func TestP6OpenOfDisksThatOthersWroteToBetweenCrashes(t *testing.T) {
	for seed := range int64(300) {
		r := rand.New(rand.NewSource(seed))
		d, _, _ := filled(t, minSectors, everything()...)
		known := sectors(t, d)
		for range 10 {
			var b [sectorBytes]byte
			copy(b[:], known[r.Intn(2*maxEvents)])
			b[r.Intn(sectorBytes)] = byte(r.Intn(1 + r.Intn(256)))
			answers(t, "Write", d.Write(r.Intn(3*maxEvents), string(b[:])), room.OK)
			if r.Intn(3) == 0 {
				d.Crash([]int{r.Intn(3), r.Intn(3), r.Intn(3)})
			}
			workOut(t, d)
		}
	}
}

func TestP6OpenLeavesNoGoroutineBehind(t *testing.T) {
	d, _, _ := filled(t, minSectors, everything()...)
	foreign := diskOf(t, slices.Repeat([]string{full("\xff")}, minSectors))
	before := runtime.NumGoroutine()
	for range 200 {
		room.Open(d)
		room.Open(foreign)
	}
	for range 1000 { // what has told that it is done may still be on its way out
		if runtime.NumGoroutine() <= before {
			return
		}
		runtime.Gosched()
	}
	t.Errorf("%d goroutines, %d before", runtime.NumGoroutine(), before)
}

// P7

func TestP7EventsAreNumberedAsTheyCome(t *testing.T) {
	s := newStore(t)
	for i := range maxEvents {
		if id, e := s.Put(nil, "b"); id != i || e != room.OK {
			t.Fatalf("Put %d = %d, %d", i, id, e)
		}
		if s.Count() != i+1 {
			t.Fatalf("Count() = %d behind %d events", s.Count(), i+1)
		}
	}
	for range 3 {
		if id, e := s.Put(nil, "b"); id != 0 || e != room.ErrMany {
			t.Errorf("one event more = %d, %d", id, e)
		}
	}
	if s.Count() != maxEvents {
		t.Errorf("Count() = %d", s.Count())
	}
}

func TestP7AllListsOfParents(t *testing.T) {
	for count := range maxEvents {
		before := slices.Repeat([]call{put("")}, count)
		var lists [][]int
		for a := -1; a <= count; a++ {
			lists = append(lists, []int{a})
			for b := -1; b <= count; b++ {
				lists = append(lists, []int{a, b})
				for c := -1; c <= count; c++ {
					lists = append(lists, []int{a, b, c})
				}
			}
		}
		d, s, n := filled(t, minSectors, before...)
		for _, l := range lists {
			more := made(t, s, n, put("body", l...))
			alike(t, "put", s, more)
			if len(more) > len(n) {
				alike(t, "opened again", open(t, d), more)
				d, s, n = filled(t, minSectors, before...)
			}
		}
	}
}

func TestP7TooManyParents(t *testing.T) {
	_, s, n := filled(t, minSectors, slices.Repeat([]call{put("")}, maxEvents-1)...)
	for _, l := range [][]int{{0, 1, 2, 3}, {3, 2, 1, 0}, {-1, -1, -1, -1}, {0, 1, 2, 99}, make([]int, 1<<20)} {
		if id, e := s.Put(l, ""); id != 0 || e != room.ErrMany {
			t.Errorf("Put of %d parents = %d, %d", len(l), id, e)
		}
	}
	alike(t, "refused", s, n)
	made(t, s, n, put("", 8, 9, 10))
}

func TestP7ParentsThatMayNotBe(t *testing.T) {
	_, s, n := filled(t, minSectors, put("a"), put("b"), put("c"), forget(1))
	for _, l := range [][]int{{3}, {-1}, {math.MinInt}, {math.MaxInt}, {0, 3}, {0, 0}, {1, 0}, {0, 2, 2}, {0, 2, 1}, {2, 1, 0}, {0, 1, 3}, {math.MinInt, math.MaxInt}, {math.MaxInt, 0}, {math.MaxInt, math.MinInt}} {
		if id, e := s.Put(l, ""); id != 0 || e != room.ErrParent {
			t.Errorf("Put(%v) = %d, %d", l, id, e)
		}
	}
	alike(t, "refused", s, n)
	n = made(t, s, n, put("what is forgotten is an event all the same", 1))
	made(t, s, n, put("forgotten parent", 1))
}

func TestP7AllBodies(t *testing.T) {
	r := rand.New(rand.NewSource(8))
	var bodies []string
	for length := range maxBody + 1 {
		b := make([]byte, length)
		r.Read(b)
		bodies = append(bodies, string(b))
		for _, c := range []string{"\x00", "\x01", "a", "\xff"} {
			bodies = append(bodies, strings.Repeat(c, length))
		}
		if length > 0 {
			bodies = append(bodies, strings.Repeat("\x00", length-1)+"z", "z"+strings.Repeat("\x00", length-1), strings.Repeat("z", length-1)+"\x00")
		}
	}
	for i := range 256 {
		bodies = append(bodies, string([]byte{byte(i)}))
	}
	for _, b := range bodies {
		d, s, n := filled(t, minSectors, put("first"), put(b, 0), put("third", 0, 1))
		alike(t, "put", s, n)
		alike(t, "opened again", open(t, d), n)
	}
}

func TestP7BodiesAreCountedInBytes(t *testing.T) {
	s := newStore(t)
	for _, b := range []string{strings.Repeat("a", maxBody+1), strings.Repeat("ä", maxBody/2) + "a", strings.Repeat("ä", maxBody), strings.Repeat("\x00", maxBody+1), strings.Repeat("a", 256), strings.Repeat("a", 256+maxBody), strings.Repeat("a", 1<<20)} {
		if id, e := s.Put(nil, b); id != 0 || e != room.ErrBody {
			t.Errorf("Put of %d bytes = %d, %d", len(b), id, e)
		}
	}
	alike(t, "refused", s, nil)
	made(t, s, nil, put(strings.Repeat("ä", maxBody/2)))
}

func TestP7TheErrorNamedFirst(t *testing.T) {
	long := strings.Repeat("a", maxBody+1)
	s := newStore(t)
	for _, c := range []struct {
		parents []int
		body    string
		e       room.Errno
	}{
		{[]int{9, 9, 9, 9}, long, room.ErrMany}, {[]int{0, 1, 2, 3}, "", room.ErrMany},
		{[]int{0}, long, room.ErrParent}, {[]int{0, 0, 0}, long, room.ErrParent}, {nil, long, room.ErrBody},
	} {
		if id, e := s.Put(c.parents, c.body); id != 0 || e != c.e {
			t.Errorf("Put(%v, %d bytes) = %d, %d, want %d", c.parents, len(c.body), id, e, c.e)
		}
	}
	_, s, _ = filled(t, minSectors, slices.Repeat([]call{put("")}, maxEvents)...)
	for _, parents := range [][]int{nil, {0}, {0, 0}, {12}, {0, 1, 2, 3}} {
		for _, body := range []string{"", long} {
			if id, e := s.Put(parents, body); id != 0 || e != room.ErrMany {
				t.Errorf("Put(%v, %q) into a full store = %d, %d", parents, body, id, e)
			}
		}
	}
}

func TestP7And8RefusalsChangeNothing(t *testing.T) {
	d, s, n := filled(t, minSectors, put("a"), put("b", 0), forget(0))
	before := sectors(t, d)
	d.Fuse(0) // so that a single step would kill the disk
	for _, c := range []call{put("", 5), put("", 0, 0), put("", 0, 0, 0, 0), put(strings.Repeat("a", maxBody+1)), forget(0), forget(2), forget(math.MaxInt)} {
		made(t, s, n, c)
	}
	for _, id := range []int{-1, math.MinInt} {
		answers(t, "Forget", s.Forget(id), room.ErrNone)
	}
	if !slices.Equal(sectors(t, d), before) {
		t.Errorf("a refusal has changed the disk")
	}
	d.Fuse(-1)
	n = made(t, s, n, put("c", 1))
	alike(t, "behind refusals", s, n)
}

func TestP7And8AreLasting(t *testing.T) {
	calls := everything()
	for i := range calls {
		d, s, n := filled(t, minSectors, calls[:i]...)
		n = made(t, s, n, calls[i])
		d.Crash(nil)
		alike(t, "behind a crash", open(t, d), n)
	}
}

// P8

func TestP8ForgetEachOfAll(t *testing.T) {
	calls := slices.DeleteFunc(everything(), func(c call) bool { return c.id >= 0 })
	r := rand.New(rand.NewSource(9))
	for range 30 {
		d, s, n := filled(t, minSectors, calls...)
		for _, id := range r.Perm(maxEvents) {
			n = made(t, s, n, forget(id))
			answers(t, "forget what is forgotten", s.Forget(id), room.ErrNone)
			alike(t, "forgotten", s, n)
			alike(t, "forgotten, opened again", open(t, d), n)
			answers(t, "forget it by another store", open(t, d).Forget(id), room.ErrNone)
		}
		if id, e := s.Put(nil, ""); id != 0 || e != room.ErrMany {
			t.Errorf("forgetting makes no room, but Put = %d, %d", id, e)
		}
	}
}

func TestP8ForgetWhatIsNoEvent(t *testing.T) {
	answers(t, "an empty store", newStore(t).Forget(0), room.ErrNone)
	_, s, n := filled(t, minSectors, put("a"), put("b"))
	for _, id := range []int{math.MinInt, -2, -1, 2, 3, 11, 12, 99, 256, math.MaxInt} {
		answers(t, "Forget", s.Forget(id), room.ErrNone)
	}
	alike(t, "refused", s, n)
}

func TestP8AnEmptyBodyCanBeForgotten(t *testing.T) {
	_, s, _ := filled(t, minSectors, put(""))
	if _, body, forgotten, e := s.Get(0); body != "" || forgotten || e != room.OK {
		t.Errorf("Get(0) = %q, %v, %d", body, forgotten, e)
	}
	answers(t, "Forget", s.Forget(0), room.OK)
	if _, body, forgotten, e := s.Get(0); body != "" || !forgotten || e != room.OK {
		t.Errorf("Get(0) = %q, %v, %d", body, forgotten, e)
	}
}

func TestP8ParentsHeadsAndPastStay(t *testing.T) {
	_, s, _ := filled(t, minSectors, put("a"), put("b", 0), put("c", 0, 1))
	for id := range 3 {
		heads := s.Heads()
		parents, _, _, _ := s.Get(id)
		past, _ := s.Past(2)
		answers(t, "Forget", s.Forget(id), room.OK)
		after, _, _, _ := s.Get(id)
		pastAfter, _ := s.Past(2)
		if !slices.Equal(s.Heads(), heads) || !slices.Equal(after, parents) || !slices.Equal(pastAfter, past) {
			t.Errorf("Forget(%d) has changed more than the body", id)
		}
	}
}

// The document asks for less: but what is forgotten should not be found on the
// disk by whoever reads it.
func TestP8WhatIsForgottenIsNotOnTheDisk(t *testing.T) {
	for length := 1; length <= maxBody; length++ {
		d, s, n := filled(t, minSectors, put("aaa"), put(strings.Repeat("\xee", length)), put("bbb"))
		made(t, s, n, forget(1))
		if strings.Contains(strings.Join(sectors(t, d), ""), "\xee") {
			t.Errorf("of a body of %d bytes something is left", length)
		}
	}
}

// P9

func TestP9AnEmptyStore(t *testing.T) {
	s := newStore(t)
	if s.Count() != 0 || len(s.Heads()) != 0 {
		t.Errorf("Count() = %d, Heads() = %v", s.Count(), s.Heads())
	}
	for _, id := range oddNumbers {
		if p, b, f, e := s.Get(id); len(p) != 0 || b != "" || f || e != room.ErrNone {
			t.Errorf("Get(%d) = %v, %q, %v, %d", id, p, b, f, e)
		}
		if p, e := s.Past(id); len(p) != 0 || e != room.ErrNone {
			t.Errorf("Past(%d) = %v, %d", id, p, e)
		}
	}
}

func TestP9HeadsAndPasts(t *testing.T) {
	_, s, _ := filled(t, minSectors, put(""), put("", 0), put("", 0), put("", 1, 2), put(""), put("", 3), put("", 3, 4), put("", 0, 4))
	if h := s.Heads(); !slices.Equal(h, []int{5, 6, 7}) {
		t.Errorf("Heads() = %v", h)
	}
	for id, want := range [][]int{{}, {0}, {0}, {0, 1, 2}, {}, {0, 1, 2, 3}, {0, 1, 2, 3, 4}, {0, 4}} {
		if p, e := s.Past(id); !slices.Equal(p, want) || e != room.OK {
			t.Errorf("Past(%d) = %v, %d, want %v", id, p, e, want)
		}
	}
	for _, id := range []int{math.MinInt, -1, 8, 9, math.MaxInt} {
		if p, e := s.Past(id); len(p) != 0 || e != room.ErrNone {
			t.Errorf("Past(%d) = %v, %d", id, p, e)
		}
		if p, b, f, e := s.Get(id); len(p) != 0 || b != "" || f || e != room.ErrNone {
			t.Errorf("Get(%d) = %v, %q, %v, %d", id, p, b, f, e)
		}
	}
}

func TestP9AChainAndAFan(t *testing.T) {
	chain := []call{put("")}
	fan := []call{put("")}
	for i := 1; i < maxEvents; i++ {
		chain = append(chain, put("", i-1))
		fan = append(fan, put("", 0))
	}
	_, s, n := filled(t, minSectors, chain...)
	alike(t, "a chain", s, n)
	if h := s.Heads(); !slices.Equal(h, []int{11}) {
		t.Errorf("a chain's heads: %v", h)
	}
	if p, _ := s.Past(11); !slices.Equal(p, []int{0, 1, 2, 3, 4, 5, 6, 7, 8, 9, 10}) {
		t.Errorf("the past of a chain's end: %v", p)
	}
	_, s, n = filled(t, minSectors, fan...)
	alike(t, "a fan", s, n)
	if h := s.Heads(); !slices.Equal(h, []int{1, 2, 3, 4, 5, 6, 7, 8, 9, 10, 11}) {
		t.Errorf("a fan's heads: %v", h)
	}
}

// P1

func TestP1AStoreEndsAtAllInputs(t *testing.T) {
	for _, calls := range [][]call{nil, {put("a"), put("b", 0)}, everything()} {
		_, s, n := filled(t, minSectors, calls...)
		for _, l := range oddLists() {
			for _, b := range oddStrings() {
				n = made(t, s, n, put(b, l...))
			}
		}
		for _, id := range oddNumbers {
			n, _ = n.forget(id)
			s.Forget(id)
			alike(t, "odd numbers", s, n)
		}
	}
}

func TestP1WhatOpenAnswersWithAnErrorIsDown(t *testing.T) {
	s, _ := room.Open(nil)
	if id, e := s.Put([]int{1, 2, 3, 4}, ""); id != 0 || e != room.ErrDown {
		t.Errorf("Put = %d, %d", id, e)
	}
	answers(t, "Forget", s.Forget(0), room.ErrDown)
	if p, b, f, e := s.Get(0); p != nil || b != "" || f || e != room.ErrNone {
		t.Errorf("Get(0) = %v, %q, %v, %d", p, b, f, e)
	}
	if p, e := s.Past(0); p != nil || e != room.ErrNone {
		t.Errorf("Past(0) = %v, %d", p, e)
	}
	if s.Count() != 0 || s.Heads() != nil {
		t.Errorf("Count() = %d, Heads() = %v", s.Count(), s.Heads())
	}
}

// P2

func TestP2ListsHandedInAreNeitherChangedNorKept(t *testing.T) {
	d, s, n := filled(t, minSectors, put("a"), put("b"), put("c"))
	list := []int{0, 2, 77, 88}
	parents := list[:2]
	n = made(t, s, n, put("d", slices.Clone(parents)...))
	if _, e := s.Put(parents, "e"); e != room.OK {
		t.Fatalf("Put = %d", e)
	}
	n, _, _ = n.put(parents, "e")
	for _, wrong := range [][]int{{2, 0}, {0, 0}, {99}, {3, 2, 1, 0}} {
		given := slices.Clone(wrong)
		s.Put(wrong, "")
		if !slices.Equal(given, wrong) {
			t.Errorf("Put has made %v of %v", wrong, given)
		}
	}
	if !slices.Equal(list, []int{0, 2, 77, 88}) {
		t.Errorf("Put has changed its list: %v", list)
	}
	n = slices.Clone(n)
	n[4].parents = []int{0, 2}
	list[0], list[1] = 1, 1
	alike(t, "the list is changed later", s, n)
	alike(t, "the list is changed later, opened again", open(t, d), n)
}

func TestP2ListsAnsweredAreNewMemory(t *testing.T) {
	d, s, n := filled(t, minSectors, everything()...)
	for _, s := range []*room.Store{s, open(t, d)} {
		for id := range maxEvents {
			parents, _, _, _ := s.Get(id)
			past, _ := s.Past(id)
			for _, l := range [][]int{parents, past, s.Heads()} {
				l = l[:cap(l)]
				for i := range l {
					l[i] = 1000
				}
				_ = append(l, 1000)
			}
			alike(t, "an answer is changed", s, n)
		}
	}
}

func TestP2ABodyHandedInIsNotKept(t *testing.T) {
	s := newStore(t)
	body := strings.Repeat("ab", 1000)[:maxBody] // to keep it would keep all that it is cut from
	if _, e := s.Put(nil, body); e != room.OK {
		t.Fatalf("Put = %d", e)
	}
	_, got, _, _ := s.Get(0)
	if got != body || unsafe.StringData(got) == unsafe.StringData(body) {
		t.Errorf("Get(0) answers the very bytes that were handed in")
	}
}

func TestP2AnAnswerTellsNotWhetherAListWasNil(t *testing.T) {
	d, s, _ := filled(t, minSectors, put("a"), call{[]int{}, "b", -1})
	for _, s := range []*room.Store{s, open(t, d)} {
		for id := range 2 {
			if p, _, _, e := s.Get(id); p != nil || e != room.OK {
				t.Errorf("Get(%d) = %v, %d, want nil", id, p, e)
			}
		}
	}
}

func TestP2TwoStoresShareNothing(t *testing.T) {
	one, a, n := filled(t, minSectors, put("a"), put("a long body of bytes", 0))
	two, b, m := filled(t, minSectors, put("b"), put("another body of bytes"[:maxBody]), put("c", 1))
	n = made(t, a, n, forget(1))
	alike(t, "the other store", b, m)
	m = made(t, b, m, put("d", 2))
	alike(t, "the one store", a, n)
	alike(t, "the one disk", open(t, one), n)
	alike(t, "the other disk", open(t, two), m)
}
