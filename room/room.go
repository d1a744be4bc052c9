// Package room: events that stay, on a disk that may fail at any step: see DOC.md.
package room

// Errno is what a call answers: OK or the reason for a refusal.
type Errno int

const (
	OK        Errno = 0
	ErrRange  Errno = 1 // a number that may not be
	ErrDead   Errno = 2 // the disk is dead
	ErrDown   Errno = 3 // the store is down
	ErrMany   Errno = 4 // too many events, or parents
	ErrParent Errno = 5 // a parent that may not be
	ErrBody   Errno = 6 // a body that is too long
	ErrNone   Errno = 7 // no such event
	ErrData   Errno = 8 // a disk that no store has written
)
