package room

import (
	"strings"
	"testing"
)

// written makes a disk with so many events of which the second one's record is
// as told.
func written(t *testing.T, count int, r record) *Disk {
	t.Helper()
	d, _ := NewDisk(minSectors)
	s, _ := Open(d)
	for range count {
		if _, e := s.Put(nil, "event"); e != OK {
			t.Fatalf("Put = %d", e)
		}
	}
	if e := d.Write(headOf(1), string(r.head[:])); e != OK {
		t.Fatalf("Write = %d", e)
	}
	if e := d.Write(tailOf(1), string(r.tail[:])); e != OK {
		t.Fatalf("Write = %d", e)
	}
	return d
}

func recordOf(head, tail string) record {
	var r record
	copy(r.head[:], head)
	copy(r.tail[:], tail)
	return r
}

func TestP6RightRecordsAreRead(t *testing.T) {
	eleven, nine := strings.Repeat("h", 11), strings.Repeat("t", 9)
	for _, c := range []struct {
		what, head, tail string
		body             string
		parents          int
		forgotten        bool
	}{
		{"forgotten", "\x01", "", "", 0, true},
		{"forgotten, with a parent", "\x01\x01", "", "", 1, true},
		{"no body", "\x02", "", "", 0, false},
		{"a short body", "\x02\x01\x00\x00\x03abc", "", "abc", 1, false},
		{"the longest short body", "\x02\x00\x00\x00\x0b" + eleven, "", eleven, 0, false},
		{"the shortest long body", "\x03\x00\x00\x00\x0c" + eleven, "t", eleven + "t", 0, false},
		{"the longest body", "\x03\x01\x00\x00\x14" + eleven, nine, eleven + nine, 1, false},
		{"a tail that is not told of", "\x02\x00\x00\x00\x01a", "left behind", "a", 0, false},
		{"a tail of what is forgotten", "\x01", "left behind", "", 0, true},
	} {
		s, e := Open(written(t, 3, recordOf(c.head, c.tail)))
		if e != OK || s.Count() != 3 {
			t.Errorf("%s: Open = %d", c.what, e)
			continue
		}
		parents, body, forgotten, _ := s.Get(1)
		if len(parents) != c.parents || body != c.body || forgotten != c.forgotten {
			t.Errorf("%s: Get(1) = %v, %q, %v", c.what, parents, body, forgotten)
		}
	}
}

func TestP6WrongRecordsAreCaughtAtTheFace(t *testing.T) {
	eleven, nine := strings.Repeat("h", 11), strings.Repeat("t", 9)
	for _, c := range []struct{ what, head, tail string }{
		{"no kind, but more", "\x00\x01", ""},
		{"no kind, but a last byte", strings.Repeat("\x00", 15) + "\x01", ""},
		{"an unknown kind", "\x04", ""},
		{"another unknown kind", "\xff", ""},
		{"forgotten, with a length", "\x01\x00\x00\x00\x01", ""},
		{"forgotten, with a body", "\x01\x00\x00\x00\x00a", ""},
		{"a short body with more behind it", "\x02\x00\x00\x00\x01ab", ""},
		{"a short body that is too long", "\x02\x00\x00\x00\x0c" + eleven, "t"},
		{"a short body of 255", "\x02\x00\x00\x00\xff" + eleven, ""},
		{"a long body that is short", "\x03\x00\x00\x00\x0b" + eleven, ""},
		{"a long body that is none", "\x03", ""},
		{"a long body of 21", "\x03\x00\x00\x00\x15" + eleven, nine + "t"},
		{"a long body of 255", "\x03\x00\x00\x00\xff" + eleven, nine},
		{"a tail with more behind it", "\x03\x00\x00\x00\x0c" + eleven, "tt"},
		{"itself as parent", "\x02\x02", ""},
		{"a later parent", "\x02\x03", ""},
		{"a parent of 254", "\x02\xff", ""},
		{"a gap ahead of a parent", "\x02\x00\x01", ""},
		{"equal parents", "\x02\x01\x01", ""},
		{"falling parents", "\x01\x02\x01", ""},
	} {
		for count := 1; count <= 3; count++ { // it is behind the last one, the last one, ahead of it
			if s, e := Open(written(t, count, recordOf(c.head, c.tail))); s != nil || e != ErrData {
				t.Errorf("%s, of %d: Open = %v, %d, want ErrData", c.what, count, s != nil, e)
			}
		}
	}
}

func TestP6NoEventComesBehindOneThatIsMissing(t *testing.T) {
	for count := 1; count <= maxEvents; count++ {
		s, e := Open(written(t, count, record{}))
		if count > 2 && (s != nil || e != ErrData) || count <= 2 && (e != OK || s.Count() != 1) {
			t.Errorf("the second of %d is missing: Open = %v, %d", count, s != nil, e)
		}
	}
}

func TestRecordsLieWithinTheSmallestDisk(t *testing.T) {
	seen := map[int]int{}
	for number := range maxEvents {
		for _, i := range []int{headOf(number), tailOf(number)} {
			seen[i]++
			if i < 0 || i >= minSectors || seen[i] > 1 {
				t.Errorf("event %d: sector %d", number, i)
			}
		}
	}
}
