package room_test

import (
	"testing"

	"room/room"
)

// The calls as the document lists them: this does not compile if one differs.
var (
	_ func(int) (*room.Disk, room.Errno)                       = room.NewDisk
	_ func(*room.Disk) int                                     = (*room.Disk).Sectors
	_ func(*room.Disk, int) (string, room.Errno)               = (*room.Disk).Read
	_ func(*room.Disk, int, string) room.Errno                 = (*room.Disk).Write
	_ func(*room.Disk) room.Errno                              = (*room.Disk).Sync
	_ func(*room.Disk, int)                                    = (*room.Disk).Fuse
	_ func(*room.Disk, []int)                                  = (*room.Disk).Crash
	_ func(*room.Disk) (*room.Store, room.Errno)               = room.Open
	_ func(*room.Store, []int, string) (int, room.Errno)       = (*room.Store).Put
	_ func(*room.Store, int) room.Errno                        = (*room.Store).Forget
	_ func(*room.Store) int                                    = (*room.Store).Count
	_ func(*room.Store, int) ([]int, string, bool, room.Errno) = (*room.Store).Get
	_ func(*room.Store) []int                                  = (*room.Store).Heads
	_ func(*room.Store, int) ([]int, room.Errno)               = (*room.Store).Past
)

func TestErrorsHaveTheirNumbers(t *testing.T) {
	got := []room.Errno{room.OK, room.ErrRange, room.ErrDead, room.ErrDown, room.ErrMany, room.ErrParent, room.ErrBody, room.ErrNone, room.ErrData}
	for i, e := range got {
		if int(e) != i {
			t.Errorf("the error named as number %d is %d", i, int(e))
		}
	}
}
