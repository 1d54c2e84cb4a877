package store

// Waiting: how many bytes each write has that is not sure.
func Waiting(s *Store) []int {
	var out []int
	for _, w := range s.waiting {
		out = append(out, len(w.bytes))
	}
	return out
}
