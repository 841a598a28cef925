package arena

import "granary/api"

// The tests bring a store into states by these that there are no bytes for.

// Forge lets the chunk of that digest have other bytes than it was told by.
func (s *Store) Forge(d api.Digest, p []byte) {
	at := s.found[d]
	s.blocks[at.block].records[at.place].bytes = p
}

// Record is one of Find's: its bytes need not be those that the digest is of.
type Record struct {
	Digest api.Digest
	Bytes  []byte
}

// Find is what Open does with the records that it has read from the blocks.
func Find(blocks [][]Record) (*Store, api.Errno) {
	s := &Store{blocks: make([]block, len(blocks)), found: map[api.Digest]spot{}, open: none}
	for b, l := range blocks {
		for _, r := range l {
			s.blocks[b].records = append(s.blocks[b].records, record{r.Digest, r.Bytes})
		}
	}
	return s.find()
}
