package hmac

import (
	"bytes"
	"strconv"

	"affidavit/api"
)

const (
	parter   = ' '     // stands behind a length, and behind a part
	partEnds = 1 << 31 // a length is below that
)

// Row is the row of the parts: each with its length ahead.
func Row(parts ...[]byte) []byte {
	var row []byte
	for _, part := range parts {
		row = strconv.AppendInt(row, int64(len(part)), 10)
		row = append(row, parter)
		row = append(row, part...)
		row = append(row, parter)
	}
	return row
}

// Parts are the parts of a row.
func Parts(row []byte) ([][]byte, error) {
	var parts [][]byte
	for at := 0; at < len(row); {
		size, from, ok := length(row, at)
		end := min(from+size, len(row))
		if !ok || end == len(row) || row[end] != parter {
			return nil, api.Spot{Err: api.ErrRow, At: end}
		}
		parts = append(parts, bytes.Clone(row[from:end]))
		at = end + 1
	}
	return parts, nil
}

// length reads the length that begins at a place, and tells where what is behind its blank begins; or false, and the place of the first byte that is none such.
func length(row []byte, at int) (int, int, bool) {
	size := 0
	for from := at; at < len(row); at++ {
		c := row[at]
		if c == parter && at > from {
			return size, at + 1, true
		}
		if c < '0' || c > '9' || at > from && size == 0 {
			return 0, at, false
		}
		if size = size*10 + int(c-'0'); size >= partEnds {
			return 0, at, false
		}
	}
	return 0, at, false
}
