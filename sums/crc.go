package sums

import "sync"

// polynomial: that of CRC-32, the lowest bit first.
const polynomial = 0xedb88320

// remainders has a row for each half of a byte, not for each byte: what stays at package level is kept small.
type remainders struct {
	once sync.Once
	rows [16]uint32
}

var halves = remainders{}

// CRC tells the CRC-32 of a text.
func CRC(text string) uint32 {
	halves.once.Do(halves.fill)
	crc := ^uint32(0)
	for i := range len(text) {
		crc ^= uint32(text[i])
		crc = crc>>4 ^ halves.rows[crc&15]
		crc = crc>>4 ^ halves.rows[crc&15]
	}
	return ^crc
}

func (r *remainders) fill() {
	for i := range r.rows {
		r.rows[i] = shifted(uint32(i))
	}
}

// shifted is what four bits leave behind when they have been shifted out.
func shifted(crc uint32) uint32 {
	for range 4 {
		out := crc & 1
		crc >>= 1
		if out != 0 {
			crc ^= polynomial
		}
	}
	return crc
}
