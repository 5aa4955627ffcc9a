package ueb

import (
	"bytes"

	"strongroom/api"
	"strongroom/base"
)

// Pack gives a table's bytes.
func Pack(rows []api.Row) ([]byte, api.Errno) {
	if !mayBe(rows) {
		return nil, api.ErrTable
	}
	var out []byte
	for _, row := range rows {
		out = appendField(out, []byte(row.Name))
		out = appendField(out, row.Value)
	}
	return out, api.OK
}

// mayBe tells whether rows are a table.
func mayBe(rows []api.Row) bool {
	if len(rows) > api.MaxRows {
		return false
	}
	// All names but the empty one stand above the empty one.
	last := ""
	for _, row := range rows {
		if row.Name <= last || len(row.Name) > api.MaxName || len(row.Value) > api.MaxValue {
			return false
		}
		last = row.Name
	}
	return true
}

// appendField adds a name or a value, as it stands in a row, to out.
func appendField(out, field []byte) []byte {
	digits, _ := base.Number(len(field)) // no length is below 0
	out = append(append(out, digits...), ':')
	return append(append(out, field...), ',')
}

// Unpack gives the table of bytes.
func Unpack(b []byte) ([]api.Row, int, api.Errno) {
	var rows []api.Row
	last, at := "", 0
reading:
	for at < len(b) {
		var fields [2][]byte
		end := at
		for i, most := range [2]int{api.MaxName, api.MaxValue} {
			field, size, is := cutField(b[end:], most)
			if !is {
				break reading
			}
			fields[i] = field
			end += size
		}
		name := string(fields[0])
		if name <= last || len(rows) == api.MaxRows {
			break reading
		}
		rows = append(rows, api.Row{Name: name, Value: bytes.Clone(fields[1])})
		last, at = name, end
	}
	// Only a row at fault leaves bytes over.
	if at < len(b) {
		return nil, at, api.ErrForm
	}
	return rows, 0, api.OK
}

// cutField gives the name or the value of at most so many bytes with which b begins, a part of b, and how many bytes it takes with all that stands around it.
func cutField(b []byte, most int) ([]byte, int, bool) {
	greatest, _ := base.Number(most)
	// More digits than the greatest number has tell none that may be, however many they are.
	colon := bytes.IndexByte(b[:min(len(b), len(greatest)+1)], ':')
	if colon < 0 {
		return nil, 0, false
	}
	size, e := base.ReadNumber(string(b[:colon]), most)
	end := colon + 1 + size
	if e != api.OK || end >= len(b) || b[end] != ',' {
		return nil, 0, false
	}
	return b[colon+1 : end], end + 1, true
}
