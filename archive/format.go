package archive

import "strings"

const (
	magic         = "archive1"
	sectorsNeeded = 4 // by an archive, at least
)

// Format makes an empty archive of a disk (P8).
func Format(d *Disk) error {
	if d.Sectors() < sectorsNeeded {
		return ErrArg
	}
	if err := wipe(d, 0); err != nil { // a head that stood ahead of old records would make them its own
		return err
	}
	if err := d.Write(0, head(d.Sectors())); err != nil {
		return err
	}
	return d.Flush()
}

// Mount finds the archive of a disk (P9).
func Mount(d *Disk) (*Archive, error) {
	first, err := d.Read(0)
	if err != nil || d.Sectors() < sectorsNeeded || first != head(d.Sectors()) {
		return nil, ErrFormat
	}
	if err := wipe(d, 1); err != nil {
		return nil, err
	}
	return &Archive{root: newDirectory()}, nil
}

// head is sector 0 of an archive's disk (P7).
func head(sectors int) string {
	text := magic + word(uint32(sectors))
	return padded(text + word(CRC(text)))
}

// wipe writes 0 to each sector, from one on, that is not all 0, and makes that safe.
func wipe(d *Disk, from int) error {
	blank := padded("")
	for at := from; at < d.Sectors(); at++ {
		data, err := d.Read(at)
		if err != nil {
			return err
		}
		if data == blank {
			continue
		}
		if err := d.Write(at, blank); err != nil {
			return err
		}
	}
	return d.Flush()
}

// padded is a text with 0 behind it, up to a sector's end.
func padded(text string) string { return text + strings.Repeat("\x00", sectorSize-len(text)) }

// word is a number in four bytes, the high byte first.
func word(n uint32) string {
	return string([]byte{byte(n >> 24), byte(n >> 16), byte(n >> 8), byte(n)})
}
