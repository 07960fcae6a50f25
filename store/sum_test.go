package store

import (
	"encoding/binary"
	"hash/crc32"
)

// resum makes a record's sum anew.
func resum(block []byte) {
	end := len(block) - 4
	binary.BigEndian.PutUint32(block[end:], crc32.Checksum(block[:end], crc32.MakeTable(crc32.Castagnoli)))
}
