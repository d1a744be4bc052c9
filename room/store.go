package room

// Store is the events of a room. Make it by Open.
type Store struct{}

// Open opens the store of a disk (P6, P11).
func Open(d *Disk) (*Store, Errno) { return nil, 0 }

// Put puts an event (P7).
func (s *Store) Put(parents []int, body string) (int, Errno) { return 0, 0 }

// Forget forgets an event's body (P8).
func (s *Store) Forget(id int) Errno { return 0 }

// Count tells how many events there are (P9).
func (s *Store) Count() int { return 0 }

// Get tells an event (P9).
func (s *Store) Get(id int) ([]int, string, bool, Errno) { return nil, "", false, 0 }

// Heads tells the heads (P9).
func (s *Store) Heads() []int { return nil }

// Past tells an event's past (P9).
func (s *Store) Past(id int) ([]int, Errno) { return nil, 0 }
