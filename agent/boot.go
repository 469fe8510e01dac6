package agent

import (
	"reveille/api"
	"reveille/frame"
	"reveille/store"
)

// The boot's file, and the one in which it is made.
const (
	bootFile  = "boot"
	bootDraft = "boot.new"
)

// bootBytes is how many bytes a boot's number has.
const bootBytes = 4

// Boot is one more than the number that the boot's file had, and has the file say so.
func Boot(s *store.Store) (int, api.Errno) {
	if s == nil {
		return 0, api.ErrArg
	}
	last, e := lastBoot(s)
	if e != api.OK {
		return 0, e
	}
	boot := last + 1
	if e := writeBoot(s, boot); e != api.OK {
		return 0, e
	}
	return boot, api.OK
}

// lastBoot is what the boot's file says; 0, if there is none.
func lastBoot(s *store.Store) (int, api.Errno) {
	b, e := s.Read(bootFile)
	switch e {
	case api.OK:
	case api.ErrNone:
		return 0, api.OK
	default:
		return 0, e
	}
	payload, size, ok := frame.First(b)
	if !ok || size != len(b) || len(payload) != bootBytes {
		return 0, api.ErrLog
	}
	number := 0
	for _, c := range payload {
		number = number<<8 | int(c)
	}
	if number >= api.MaxBoot {
		return 0, api.ErrLog
	}
	return number, api.OK
}

// writeBoot makes a file apart, which then takes the place of the one that there is: a crash leaves one of the two.
func writeBoot(s *store.Store, boot int) api.Errno {
	var payload [bootBytes]byte
	for i := range payload {
		payload[bootBytes-1-i] = byte(boot >> (8 * i))
	}
	framed, e := frame.Put(nil, payload[:])
	if e != api.OK {
		return e
	}
	if e := s.Remove(bootDraft); e != api.OK && e != api.ErrNone {
		return e
	}
	if e := s.Append(bootDraft, framed); e != api.OK {
		return e
	}
	return s.Rename(bootDraft, bootFile)
}
