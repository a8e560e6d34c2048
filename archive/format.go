package archive

import "strings"

const (
	magic         = "archive1"
	sectorsNeeded = 4 // by an archive, at least
)

// Format makes an empty archive of a disk (P8).
func Format(d *Disk) error {
	if d.Sectors() < sectorsNeeded {
		return ErrArg
	}
	if err := wipe(d, 0); err != nil { // a head that stood ahead of old records would make them its own
		return err
	}
	if err := d.Write(0, head(d.Sectors())); err != nil {
		return err
	}
	return d.Flush()
}

// Mount finds the archive of a disk (P9).
func Mount(d *Disk) (*Archive, error) {
	first, err := d.Read(0)
	if err != nil || d.Sectors() < sectorsNeeded || first != head(d.Sectors()) {
		return nil, ErrFormat
	}
	found := newScan()
	end := records(d, found.take)
	if err := wipe(d, end.at); err != nil {
		return nil, err
	}
	a := &Archive{disk: d, objects: found.objects, snapshots: found.snapshots, end: end}
	a.root, err = a.lastTree()
	if err != nil {
		return nil, err
	}
	return a, nil
}

// head is sector 0 of an archive's disk (P7).
func head(sectors int) string {
	text := headText(sectors)
	return padded(text + word(CRC(text)))
}

// headText is what sector 0 says ahead of its CRC.
func headText(sectors int) string { return magic + word(uint32(sectors)) }

// wipe writes 0 to each sector, from one on, that is not all 0, and makes that safe.
func wipe(d *Disk, from int) error {
	blank := strings.Repeat("\x00", sectorSize)
	for at := from; at < d.Sectors(); at++ {
		data, err := d.Read(at)
		if err != nil {
			return err
		}
		if data == blank {
			continue
		}
		if err := d.Write(at, blank); err != nil {
			return err
		}
	}
	return d.Flush()
}

// padded is a text with 0 behind it, up to a sector's end.
func padded(text string) string {
	over := len(text) % sectorSize
	if over == 0 {
		return text
	}
	return text + strings.Repeat("\x00", sectorSize-over)
}
