package disks

import (
	"strings"

	"parcels/api"
)

// between is an empty line: no package's one form has one, nor a line break at its end.
const between = "\n\n"

func join(texts []string) string { return strings.Join(texts, between) }

func split(all string) []string {
	if all == "" {
		return nil
	}
	return strings.Split(all, between)
}

// writeHead is the head for texts of so many bytes in that half. (A disk of the most sectors has 16384 bytes: two bytes tell how many.)
func writeHead(half, size int) []byte {
	return []byte{byte(half), byte(size >> 8), byte(size)}
}

// readHead takes noughts for the head of no texts.
func readHead(head [api.SectorSize]byte) (half, size int) {
	return int(head[0]) % 2, int(head[1])<<8 | int(head[2])
}
