package room_test

import (
	"math"
	"slices"
	"strings"
	"testing"

	"room/room"
)

const (
	maxSectors  = 200
	sectorBytes = 16
)

func full(c string) string { return strings.Repeat(c, sectorBytes) }

var blank = full("\x00")

func newDisk(t *testing.T, sectors int) *room.Disk {
	t.Helper()
	d, e := room.NewDisk(sectors)
	if d == nil || e != room.OK {
		t.Fatalf("NewDisk(%d) = %v, %d", sectors, d != nil, e)
	}
	return d
}

func deadDisk(t *testing.T, sectors int) *room.Disk {
	t.Helper()
	d := newDisk(t, sectors)
	d.Fuse(0)
	answers(t, "the step that kills", d.Sync(), room.ErrDead)
	return d
}

func answers(t *testing.T, what string, got, want room.Errno) {
	t.Helper()
	if got != want {
		t.Fatalf("%s = %d, want %d", what, got, want)
	}
}

func holds(t *testing.T, what string, d *room.Disk, want ...string) {
	t.Helper()
	for i, w := range want {
		if s, e := d.Read(i); s != w || e != room.OK {
			t.Fatalf("%s: Read(%d) = %q, %d, want %q, 0", what, i, s, e, w)
		}
	}
}

func writeAll(t *testing.T, d *room.Disk, i int, letters string) {
	t.Helper()
	for _, c := range letters {
		answers(t, "a write", d.Write(i, full(string(c))), room.OK)
	}
}

// P1

var oddNumbers = []int{math.MinInt, math.MinInt + 1, -17, -1, 0, 1, 3, 4, 15, 16, 17, 199, 200, 201, math.MaxInt - 1, math.MaxInt}

func oddStrings() []string {
	return []string{"", "a", full("a")[1:], full("a"), full("a") + "a", strings.Repeat("ä", 16), strings.Repeat("ä", 8), full("\xff"), strings.Repeat("a", 1<<20)}
}

func oddLists() [][]int {
	long := make([]int, 1<<20)
	for i := range long {
		long[i] = math.MaxInt - i
	}
	return [][]int{nil, {}, {0}, {-1}, {math.MinInt, math.MaxInt}, oddNumbers, long}
}

func TestP1DiskCallsEndAtAllInputs(t *testing.T) {
	none, _ := room.NewDisk(0)
	disks := []*room.Disk{none, newDisk(t, 1), newDisk(t, 4), newDisk(t, maxSectors), deadDisk(t, 4)}
	for _, d := range disks {
		for _, n := range oddNumbers {
			if s, e := d.Read(n); e == room.OK && len(s) != sectorBytes || e != room.OK && s != "" {
				t.Errorf("Read(%d) = %q, %d", n, s, e)
			}
			for _, s := range oddStrings() {
				d.Write(n, s)
			}
			d.Fuse(n)
			d.Sync()
		}
		for _, l := range oddLists() {
			writeWhereItMay(d)
			d.Crash(l)
		}
	}
	for _, n := range oddNumbers {
		if d, e := room.NewDisk(n); (d == nil) != (e != room.OK) {
			t.Errorf("NewDisk(%d) = %v, %d", n, d != nil, e)
		}
	}
}

func writeWhereItMay(d *room.Disk) {
	for i := range d.Sectors() {
		d.Write(i, full("a"))
		d.Write(i, full("b"))
	}
}

func TestP1StoreCallsEndAtAllInputs(t *testing.T) {
	for _, d := range []*room.Disk{nil, newDisk(t, 1), newDisk(t, maxSectors), deadDisk(t, maxSectors)} {
		s, _ := room.Open(d)
		for _, l := range oddLists() {
			for _, b := range oddStrings() {
				s.Put(l, b)
			}
		}
		for _, n := range oddNumbers {
			s.Forget(n)
			s.Get(n)
			s.Past(n)
		}
		s.Count()
		s.Heads()
	}
}

func TestP1NoDiskIsADiskWithoutSectors(t *testing.T) {
	d, _ := room.NewDisk(0)
	if d.Sectors() != 0 {
		t.Errorf("Sectors() = %d", d.Sectors())
	}
	if s, e := d.Read(0); s != "" || e != room.ErrRange {
		t.Errorf("Read(0) = %q, %d", s, e)
	}
	answers(t, "Write", d.Write(0, blank), room.ErrRange)
	answers(t, "Sync", d.Sync(), room.OK)
	d.Fuse(0)
	answers(t, "Sync", d.Sync(), room.OK)
	d.Crash([]int{1})
}

func TestP1TheErrorNamedFirst(t *testing.T) {
	d := newDisk(t, 2)
	d.Fuse(0)
	answers(t, "no such sector, no step left", d.Write(2, blank), room.ErrRange)
	answers(t, "too short, no step left", d.Write(0, ""), room.ErrRange)
	if s, e := d.Read(2); s != "" || e != room.ErrRange {
		t.Errorf("Read(2) = %q, %d, want ErrRange", s, e)
	}
	holds(t, "a fuse of 0 alone kills nothing", d, blank, blank)
	answers(t, "no step left", d.Write(0, blank), room.ErrDead)
	for _, i := range oddNumbers {
		if s, e := d.Read(i); s != "" || e != room.ErrDead {
			t.Errorf("dead: Read(%d) = %q, %d, want ErrDead", i, s, e)
		}
		answers(t, "dead: Write", d.Write(i, "short"), room.ErrDead)
	}
}

func TestP1ARefusalChangesNothing(t *testing.T) {
	d := newDisk(t, 2)
	writeAll(t, d, 1, "abc")
	d.Fuse(2)
	for _, i := range []int{math.MinInt, -2, -1, 2, 3, math.MaxInt} {
		answers(t, "no such sector", d.Write(i, full("x")), room.ErrRange)
	}
	for _, s := range []string{"", full("x")[1:], full("x") + "x"} {
		answers(t, "not a sector's bytes", d.Write(0, s), room.ErrRange)
	}
	holds(t, "behind refusals", d, blank, full("c"))
	answers(t, "the first step of two", d.Write(0, full("d")), room.OK)
	answers(t, "the second step of two", d.Write(0, full("e")), room.OK)
	answers(t, "the third step of two", d.Write(0, full("f")), room.ErrDead)
	d.Crash([]int{1, 2})
	holds(t, "the crash counts no refused write", d, full("d"), full("b"))
}

// P2

func TestP2TwoDisksShareNothing(t *testing.T) {
	a, b := newDisk(t, 2), newDisk(t, 2)
	writeAll(t, a, 0, "a")
	holds(t, "a write to another disk", b, blank, blank)
	writeAll(t, b, 0, "b")
	answers(t, "a sync of the other", b.Sync(), room.OK)
	b.Crash(nil)
	holds(t, "a crash of another disk", a, full("a"), blank)
	a.Crash(nil)
	holds(t, "a sync of another disk makes nothing lasting", a, blank, blank)
	a.Fuse(0)
	answers(t, "the other's fuse", b.Sync(), room.OK)
	answers(t, "its own fuse", a.Sync(), room.ErrDead)
	holds(t, "the other is dead", b, full("b"), blank)
	c := newDisk(t, 2)
	holds(t, "a disk that is made later", c, blank, blank)
	answers(t, "a disk that is made later", c.Sync(), room.OK)
}

func TestP2TheListIsNeitherChangedNorKept(t *testing.T) {
	d := newDisk(t, 3)
	list := []int{1, -5, math.MaxInt, 7}
	given := slices.Clone(list)
	for i := range 3 {
		writeAll(t, d, i, "ab")
	}
	d.Crash(list)
	if !slices.Equal(list, given) {
		t.Errorf("the list is %v, was %v", list, given)
	}
	clear(list)
	holds(t, "behind a change of the list", d, full("a"), blank, full("b"))
}

func TestP2ShortListsReadNothingBehindTheirEnd(t *testing.T) {
	d := newDisk(t, 3)
	for i := range 3 {
		writeAll(t, d, i, "ab")
	}
	behind := []int{1, 2, 2}
	d.Crash(behind[:1])
	holds(t, "what lies behind the list's end is not of the list", d, full("a"), blank, blank)
}

// P3

func TestP3Sizes(t *testing.T) {
	for _, n := range []int{math.MinInt, -200, -1, 0, maxSectors + 1, 1000, math.MaxInt} {
		if d, e := room.NewDisk(n); d != nil || e != room.ErrRange {
			t.Errorf("NewDisk(%d) = %v, %d, want nil, ErrRange", n, d != nil, e)
		}
	}
	for n := 1; n <= maxSectors; n++ {
		d := newDisk(t, n)
		if d.Sectors() != n {
			t.Fatalf("NewDisk(%d) has %d sectors", n, d.Sectors())
		}
		holds(t, "a new disk", d, slices.Repeat([]string{blank}, n)...)
		answers(t, "the last sector", d.Write(n-1, full("z")), room.OK)
		if s, e := d.Read(n); s != "" || e != room.ErrRange {
			t.Fatalf("Read(%d) of %d sectors = %q, %d", n, n, s, e)
		}
	}
}

func TestP3ANewDiskHasNoFuseAndIsLasting(t *testing.T) {
	d := newDisk(t, 1)
	d.Crash([]int{5})
	holds(t, "a new disk that crashed", d, blank)
	d = newDisk(t, 1)
	for range 1000 {
		answers(t, "a write", d.Write(0, full("a")), room.OK)
		answers(t, "a sync", d.Sync(), room.OK)
	}
	if d.Sectors() != 1 {
		t.Errorf("Sectors() = %d, want 1", d.Sectors())
	}
	if dead := deadDisk(t, 7); dead.Sectors() != 7 {
		t.Errorf("a dead disk has %d sectors, want 7", dead.Sectors())
	}
}

// P4

func TestP4WhatWasWrittenLastIsRead(t *testing.T) {
	d := newDisk(t, 3)
	writeAll(t, d, 1, "abca")
	holds(t, "written", d, blank, full("a"), blank)
	answers(t, "a sync", d.Sync(), room.OK)
	holds(t, "synced", d, blank, full("a"), blank)
	writeAll(t, d, 1, "b")
	writeAll(t, d, 2, "c")
	holds(t, "written over", d, blank, full("b"), full("c"))
}

func TestP4EveryByteIsKept(t *testing.T) {
	d := newDisk(t, 16)
	var want []string
	for i := range 16 {
		var b [sectorBytes]byte
		for j := range b {
			b[j] = byte(sectorBytes*i + j)
		}
		want = append(want, string(b[:]))
		answers(t, "a write", d.Write(i, want[i]), room.OK)
	}
	holds(t, "all bytes", d, want...)
	answers(t, "a sync", d.Sync(), room.OK)
	d.Crash(nil)
	holds(t, "all bytes, behind a crash", d, want...)
}

func TestP4DataIsCountedInBytes(t *testing.T) {
	d := newDisk(t, 1)
	answers(t, "16 letters of 2 bytes", d.Write(0, strings.Repeat("ä", 16)), room.ErrRange)
	answers(t, "8 letters of 2 bytes", d.Write(0, strings.Repeat("ä", 8)), room.OK)
	holds(t, "8 letters of 2 bytes", d, strings.Repeat("ä", 8))
	for n := range 3 * sectorBytes {
		want := room.ErrRange
		if n == sectorBytes {
			want = room.OK
		}
		answers(t, "a write of other than Sector bytes", d.Write(0, strings.Repeat("x", n)), want)
	}
}

func TestP4ReadIsNoStep(t *testing.T) {
	d := newDisk(t, 1)
	d.Fuse(1)
	for range 10 {
		holds(t, "a fuse of 1", d, blank)
	}
	answers(t, "the step", d.Write(0, full("a")), room.OK)
	for range 10 {
		holds(t, "the fuse is burnt, the disk not dead", d, full("a"))
	}
	answers(t, "one step more", d.Sync(), room.ErrDead)
}

func TestP4SyncMakesAllLasting(t *testing.T) {
	d := newDisk(t, 3)
	writeAll(t, d, 0, "ab")
	writeAll(t, d, 2, "c")
	answers(t, "a sync", d.Sync(), room.OK)
	d.Crash([]int{1, 0})
	holds(t, "synced ahead of the crash", d, full("b"), blank, full("c"))
}

func TestP4TheStepThatIsNotMade(t *testing.T) {
	d := newDisk(t, 2)
	d.Fuse(1)
	writeAll(t, d, 0, "a")
	answers(t, "a sync too many", d.Sync(), room.ErrDead)
	answers(t, "a dead disk", d.Sync(), room.ErrDead)
	d.Crash(nil)
	holds(t, "that sync was not made", d, blank, blank)

	d.Fuse(2)
	writeAll(t, d, 0, "ab")
	answers(t, "a write too many", d.Write(0, full("c")), room.ErrDead)
	answers(t, "a dead disk", d.Write(1, full("d")), room.ErrDead)
	d.Crash([]int{9, 9})
	holds(t, "those writes were not made", d, full("b"), blank)
}

// P5

func TestP5AFuseAllowsSoManySteps(t *testing.T) {
	for steps := range 12 {
		for kinds := range 2 { // the steps are syncs and writes, or writes and syncs
			d := newDisk(t, 1)
			d.Fuse(steps)
			for i := range steps {
				answers(t, "a step within the fuse", stepOf(d, i+kinds), room.OK)
			}
			answers(t, "the step behind the fuse", stepOf(d, steps+kinds), room.ErrDead)
			for i := range 4 {
				answers(t, "a dead disk", stepOf(d, i), room.ErrDead)
			}
		}
	}
}

func stepOf(d *room.Disk, kind int) room.Errno {
	if kind%2 == 0 {
		return d.Sync()
	}
	return d.Write(0, full("a"))
}

func TestP5AFuseIsSetAnew(t *testing.T) {
	for _, below := range []int{-1, -2, -100, math.MinInt} {
		d := newDisk(t, 1)
		d.Fuse(0)
		d.Fuse(below)
		for range 100 {
			answers(t, "no fuse", d.Sync(), room.OK)
		}
	}
	d := newDisk(t, 1)
	d.Fuse(5)
	answers(t, "the first of 5", d.Sync(), room.OK)
	d.Fuse(1)
	answers(t, "the first of 1", d.Sync(), room.OK)
	d.Fuse(2)
	answers(t, "the first of 2", d.Sync(), room.OK)
	answers(t, "the second of 2", d.Sync(), room.OK)
	answers(t, "the third of 2", d.Sync(), room.ErrDead)
	d = newDisk(t, 1)
	d.Fuse(math.MaxInt)
	answers(t, "a long fuse", d.Sync(), room.OK)
}

func TestP5ADeadDiskStaysDeadTillItCrashes(t *testing.T) {
	for _, steps := range []int{math.MinInt, -1, 0, 1, 5, math.MaxInt} {
		d := deadDisk(t, 1)
		d.Fuse(steps)
		answers(t, "a dead disk with a new fuse", d.Sync(), room.ErrDead)
		answers(t, "a dead disk with a new fuse", d.Write(0, blank), room.ErrDead)
		if s, e := d.Read(0); s != "" || e != room.ErrDead {
			t.Errorf("a dead disk with a new fuse: Read(0) = %q, %d", s, e)
		}
		d.Crash(nil)
		holds(t, "crashed", d, blank)
		for range 20 {
			answers(t, "crashed: neither dead nor with a fuse", d.Sync(), room.OK)
		}
	}
}

func TestP5ACrashTakesTheFuseOfALivingDisk(t *testing.T) {
	d := newDisk(t, 1)
	d.Fuse(1)
	d.Crash(nil)
	for range 20 {
		answers(t, "no fuse behind a crash", d.Sync(), room.OK)
	}
}

func TestP5EachSectorKeepsItsFirstWrites(t *testing.T) {
	after := func(n int, states ...string) string { return states[min(max(n, 0), len(states)-1)] }
	numbers := []int{math.MinInt, -1, 0, 1, 2, 3, 4, 5, math.MaxInt}
	for _, a := range numbers {
		for _, b := range numbers {
			d := newDisk(t, 5)
			writeAll(t, d, 3, "l")
			answers(t, "a sync", d.Sync(), room.OK)
			writeAll(t, d, 3, "pqr") // the higher one first: the list goes by rising number
			writeAll(t, d, 1, "uuvu")
			d.Crash([]int{a, b})
			one := after(a, blank, full("u"), full("u"), full("v"), full("u"))
			three := after(b, full("l"), full("p"), full("q"), full("r"))
			holds(t, "crashed", d, blank, one, blank, three, blank)
			d.Crash([]int{math.MaxInt, math.MaxInt})
			holds(t, "what is there behind a crash is lasting", d, blank, one, blank, three, blank)
		}
	}
}

func TestP5ListsThatAreTooShortOrTooLong(t *testing.T) {
	cases := []struct {
		keep []int
		want [3]string
	}{
		{nil, [3]string{"\x00", "\x00", "\x00"}},
		{[]int{}, [3]string{"\x00", "\x00", "\x00"}},
		{[]int{1}, [3]string{"a", "\x00", "\x00"}},
		{[]int{0, 2}, [3]string{"\x00", "b", "\x00"}},
		{[]int{2, 1, 1}, [3]string{"b", "a", "a"}},
		{[]int{2, 1, 0, 1, 2, 1}, [3]string{"b", "a", "\x00"}},
	}
	for _, c := range cases {
		d := newDisk(t, 3)
		for i := range 3 {
			writeAll(t, d, i, "ab")
		}
		d.Crash(c.keep)
		holds(t, "crashed", d, full(c.want[0]), full(c.want[1]), full(c.want[2]))
	}
}

func TestP5EqualWritesCountEach(t *testing.T) {
	d := newDisk(t, 3)
	writeAll(t, d, 0, "\x00") // what is lasting already: a write all the same
	writeAll(t, d, 1, "aab")
	writeAll(t, d, 2, "cc")
	d.Crash([]int{0, 2, 1})
	holds(t, "crashed", d, blank, full("a"), full("c"))
	writeAll(t, d, 1, "aab")
	d.Crash([]int{3})
	holds(t, "crashed again", d, blank, full("b"), full("c"))
}

func TestP5SectorsWithoutOpenWritesTakeNoNumber(t *testing.T) {
	d := newDisk(t, 4)
	writeAll(t, d, 0, "a")
	writeAll(t, d, 2, "b")
	answers(t, "a sync", d.Sync(), room.OK)
	writeAll(t, d, 1, "cd")
	writeAll(t, d, 3, "ef")
	d.Crash([]int{2, 1})
	holds(t, "crashed", d, full("a"), full("d"), full("b"), full("e"))
}

func TestP5ACrashOfADeadDiskStillHasItsWrites(t *testing.T) {
	d := newDisk(t, 2)
	d.Fuse(3)
	writeAll(t, d, 1, "ab")
	writeAll(t, d, 0, "c")
	answers(t, "the step that kills", d.Write(0, full("x")), room.ErrDead)
	d.Fuse(-1)
	d.Crash([]int{1, 1})
	holds(t, "crashed", d, full("c"), full("a"))
}
