package room_test

import (
	"fmt"
	"math/rand"
	"slices"
	"strings"
	"testing"

	"room/room"
)

const (
	minSectors = 100
	maxEvents  = 12
	maxParents = 3
	maxBody    = 20
)

// told is an event, and notes is a store, as the document tells them: without
// a disk, and with nothing in common with the program.
type told struct {
	parents   []int
	body      string
	forgotten bool
}

func (e told) String() string {
	return fmt.Sprintf("{%v %q %v}", e.parents, e.body, e.forgotten)
}

type notes []told

func (n notes) put(parents []int, body string) (notes, int, room.Errno) {
	if len(n) == maxEvents || len(parents) > maxParents {
		return n, 0, room.ErrMany
	}
	for i, p := range parents {
		if p < 0 || p >= len(n) || i > 0 && p <= parents[i-1] {
			return n, 0, room.ErrParent
		}
	}
	if len(body) > maxBody {
		return n, 0, room.ErrBody
	}
	return append(slices.Clone(n), told{slices.Clone(parents), body, false}), len(n), room.OK
}

func (n notes) forget(id int) (notes, room.Errno) {
	if id < 0 || id >= len(n) || n[id].forgotten {
		return n, room.ErrNone
	}
	n = slices.Clone(n)
	n[id] = told{n[id].parents, "", true}
	return n, room.OK
}

func (n notes) heads() []int {
	var heads []int
	for i := range n {
		if !slices.ContainsFunc(n, func(e told) bool { return slices.Contains(e.parents, i) }) {
			heads = append(heads, i)
		}
	}
	return heads
}

func (n notes) past(id int) []int {
	var past []int
	for _, p := range n[id].parents {
		past = append(append(past, p), n.past(p)...)
	}
	slices.Sort(past)
	return slices.Compact(past)
}

// differs tells the first thing in which a store is not as the notes say.
func (n notes) differs(s *room.Store) string {
	if s == nil {
		return "there is no store"
	}
	if s.Count() != len(n) {
		return "Count"
	}
	if !slices.Equal(s.Heads(), n.heads()) {
		return "Heads"
	}
	for id := -2; id < maxEvents+2; id++ {
		parents, body, forgotten, e := s.Get(id)
		past, pe := s.Past(id)
		var want told
		var wantPast []int
		wantErr := room.ErrNone
		if id >= 0 && id < len(n) {
			want, wantPast, wantErr = n[id], n.past(id), room.OK
		}
		if !slices.Equal(parents, want.parents) || body != want.body || forgotten != want.forgotten || e != wantErr {
			return "Get"
		}
		if !slices.Equal(past, wantPast) || pe != wantErr {
			return "Past"
		}
	}
	return ""
}

func alike(t *testing.T, what string, s *room.Store, n notes) {
	t.Helper()
	if d := n.differs(s); d != "" {
		t.Fatalf("%s: %s: the store differs from %v", what, d, n)
	}
}

func open(t *testing.T, d *room.Disk) *room.Store {
	t.Helper()
	s, e := room.Open(d)
	if s == nil || e != room.OK {
		t.Fatalf("Open = %v, %d", s != nil, e)
	}
	return s
}

func sectors(t *testing.T, d *room.Disk) []string {
	t.Helper()
	var all []string
	for i := range d.Sectors() {
		s, e := d.Read(i)
		answers(t, "Read", e, room.OK)
		all = append(all, s)
	}
	return all
}

// diskOf makes a disk with these sectors, all lasting.
func diskOf(t *testing.T, all []string) *room.Disk {
	t.Helper()
	d := newDisk(t, len(all))
	for i, s := range all {
		answers(t, "Write", d.Write(i, s), room.OK)
	}
	answers(t, "Sync", d.Sync(), room.OK)
	return d
}

// call is one call of Put (id below 0) or Forget.
type call struct {
	parents []int
	body    string
	id      int
}

func put(body string, parents ...int) call { return call{parents, body, -1} }

func forget(id int) call { return call{id: id} }

func (c call) String() string {
	if c.id < 0 {
		return fmt.Sprintf("Put(%v, %q)", c.parents, c.body)
	}
	return fmt.Sprintf("Forget(%d)", c.id)
}

func (c call) on(s *room.Store) (int, room.Errno) {
	if c.id < 0 {
		return s.Put(c.parents, c.body)
	}
	return 0, s.Forget(c.id)
}

func (c call) noted(n notes) (notes, int, room.Errno) {
	if c.id < 0 {
		return n.put(c.parents, c.body)
	}
	n, e := n.forget(c.id)
	return n, 0, e
}

// made makes a call on a store and in its notes, and holds the answers against
// each other.
func made(t *testing.T, s *room.Store, n notes, c call) notes {
	t.Helper()
	id, e := c.on(s)
	n, wantID, want := c.noted(n)
	if id != wantID || e != want {
		t.Fatalf("%v = %d, %d, want %d, %d", c, id, e, wantID, want)
	}
	return n
}

// anyCall is right more often than not.
func anyCall(r *rand.Rand, count int) call {
	if r.Intn(3) == 0 {
		return forget(max(0, r.Intn(count+2)-r.Intn(2)))
	}
	var parents []int
	for p := range count {
		if r.Intn(count) < 2 {
			parents = append(parents, p)
		}
	}
	if r.Intn(10) == 0 {
		parents = append(parents, r.Intn(count+3)-1)
	}
	return put(anyBody(r), parents...)
}

func anyBody(r *rand.Rand) string {
	length := r.Intn(maxBody + 1)
	if r.Intn(10) == 0 {
		length = maxBody + 1
	}
	if r.Intn(4) == 0 {
		return strings.Repeat("\x00", length)
	}
	b := make([]byte, length)
	for i := range b {
		b[i] = byte(r.Intn(256))
	}
	return string(b)
}

func TestP6ToP9AStoreAnswersAsItsModel(t *testing.T) {
	for seed := range int64(200) {
		r := rand.New(rand.NewSource(seed))
		d := newDisk(t, minSectors+r.Intn(maxSectors-minSectors+1))
		s := open(t, d)
		var n notes
		for range 60 {
			n = made(t, s, n, anyCall(r, len(n)))
			alike(t, "the store", s, n)
			if r.Intn(3) == 0 {
				alike(t, "another disk with its sectors", open(t, diskOf(t, sectors(t, d))), n)
				s = open(t, d)
				alike(t, "opened again", s, n)
			}
		}
	}
}

// P2: what a store writes depends on its calls alone, not on another store's,
// nor on whether it was opened again in between.
func TestP2AStoreWritesAsItsCallsSay(t *testing.T) {
	for seed := range int64(50) {
		r := rand.New(rand.NewSource(seed))
		one, two, other := newDisk(t, minSectors), newDisk(t, minSectors), newDisk(t, minSectors)
		s, u, o := open(t, one), open(t, two), open(t, other)
		for range 40 {
			c := anyCall(r, s.Count())
			c.on(s)
			anyCall(r, o.Count()).on(o)
			u = open(t, two)
			u.Heads()
			c.on(u)
			if !slices.Equal(sectors(t, one), sectors(t, two)) {
				t.Fatalf("seed %d: two disks differ behind the same calls, the last of them %v", seed, c)
			}
		}
	}
}
