package store

import (
	"bytes"
	"maps"
	"slices"

	"reveille/api"
)

// names is the files' names, rising.
func (s *Store) names() []string { return slices.Sorted(maps.Keys(s.files)) }

// List is all files, by rising names.
func (s *Store) List() []api.Stored {
	if s.closed() {
		return nil
	}
	var l []api.Stored
	for _, name := range s.names() {
		f := s.files[name]
		l = append(l, api.Stored{Name: name, Bytes: bytes.Clone(f.bytes), Sure: f.sure})
	}
	return l
}

// Room is for how many bytes there is room.
func (s *Store) Room() int {
	if s.closed() {
		return 0
	}
	room := s.room
	for _, f := range s.files {
		room -= len(f.bytes)
	}
	return room
}

// Fork is another store that is the same.
func (s *Store) Fork() *Store {
	if s.closed() {
		return nil
	}
	other := &Store{files: map[string]*file{}, room: s.room, left: s.left}
	for _, name := range s.names() {
		f := *s.files[name]
		f.bytes = bytes.Clone(f.bytes)
		other.files[name] = &f
	}
	return other
}
