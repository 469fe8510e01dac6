package store

import "reveille/api"

// Stop lets the power go behind n further calls; below 0: it is not to go.
func (s *Store) Stop(n int) {
	if s.closed() || s.Off() {
		return
	}
	s.left = n
}

// Off: is the power off?
func (s *Store) Off() bool { return !s.closed() && s.left == 0 }

// wear counts a call that the power lasted.
func (s *Store) wear() {
	if s.left > 0 {
		s.left--
	}
}

// Crash leaves of each file what is sure, and what l says of the rest; the power is on again.
func (s *Store) Crash(l []api.Kept) api.Errno {
	if s.closed() {
		return api.ErrClosed
	}
	lasts, ok := s.outlasting(l)
	if !ok {
		return api.ErrArg
	}
	for _, name := range s.names() {
		f := s.files[name]
		f.cutAtCrash(f.sure + lasts[name])
		if !f.stays {
			delete(s.files, name)
		}
	}
	s.left = lasting
	return api.OK
}

// outlasting is how many bytes last, of those that are not sure, by the files' names; and whether that may be.
func (s *Store) outlasting(l []api.Kept) (map[string]int, bool) {
	lasts := map[string]int{}
	for _, kept := range l {
		f, ok := s.files[kept.Name]
		_, twice := lasts[kept.Name]
		if !ok || twice || kept.Bytes < 0 || kept.Bytes > len(f.bytes)-f.sure {
			return nil, false
		}
		lasts[kept.Name] = kept.Bytes
	}
	return lasts, true
}

// cutAtCrash leaves of a file its first n bytes, and these are sure; one that was never sure stays for its bytes alone.
func (f *file) cutAtCrash(n int) {
	f.bytes, f.sure, f.stays = f.bytes[:n], n, f.stays || n > 0
}

// Damage makes one byte of a file another one.
func (s *Store) Damage(name string, at int, to byte) api.Errno {
	if s.closed() {
		return api.ErrClosed
	}
	f, ok := s.files[name]
	switch {
	case !mayBe(name), at < 0, ok && at >= len(f.bytes):
		return api.ErrArg
	case !ok:
		return api.ErrNone
	}
	f.bytes[at] = to
	return api.OK
}
