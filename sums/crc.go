package sums

import "sync"

// polynomial: that of CRC-32, the lowest bit first.
const polynomial = 0xedb88320

// table belongs to the text that is asked for, as nothing at package level may be filled later on; so it is kept small: a row for each half of a byte.
type table struct {
	once sync.Once
	rows [16]uint32
}

// CRC tells the CRC-32 of a text.
func CRC(text string) uint32 {
	var halves table
	crc := ^uint32(0)
	for i := range len(text) {
		crc ^= uint32(text[i])
		crc = crc>>4 ^ halves.row(crc&15)
		crc = crc>>4 ^ halves.row(crc&15)
	}
	return ^crc
}

// row is what half a byte leaves behind; the first that is asked for makes the table.
func (t *table) row(half uint32) uint32 {
	t.once.Do(t.fill)
	return t.rows[half]
}

func (t *table) fill() {
	for i := range t.rows {
		t.rows[i] = shifted(uint32(i))
	}
}

// shifted is what four bits leave behind when they have been shifted out.
func shifted(crc uint32) uint32 {
	for range 4 {
		out := crc & 1
		crc >>= 1
		if out != 0 {
			crc ^= polynomial
		}
	}
	return crc
}
