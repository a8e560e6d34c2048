package archive

// kind tells what a record's text is (P7).
type kind byte

const (
	chunkKind kind = iota + 1
	fileKind
	directoryKind
	snapshotKind
)

const (
	frontSize   = 7             // of a record, ahead of its CRC
	textAt      = frontSize + 4 // where, in a record, its text begins
	longestText = 1000
)

// record is one as it stands on a disk.
type record struct {
	at   int // its first sector
	kind kind
	text string
}

// tail is where a disk's records end: all that the next one hangs on.
type tail struct {
	at     int    // the next one's first sector
	number uint32 // the next one's
	crc    uint32 // that of the record ahead
}

// start is the tail of a disk without records.
func start(sectors int) tail {
	return tail{at: 1, number: 1, crc: CRC(headText(sectors))}
}

// with tells the sectors of a record, if it is the next, and the tail behind it.
func (t tail) with(kind kind, text string) (string, tail) {
	front := half(uint16(len(text))) + string([]byte{byte(kind)}) + word(t.number)
	crc := CRC(word(t.crc) + front + text)
	data := padded(front + word(crc) + text)
	return data, tail{at: t.at + len(data)/sectorSize, number: t.number + 1, crc: crc}
}

// next reads the record behind a tail, if one stands there; whether its text is one of its kind is not asked.
func (t tail) next(d *Disk) (record, tail, bool) {
	first, err := d.Read(t.at)
	if err != nil {
		return record{}, t, false
	}
	size, kind := int(first[0])<<8|int(first[1]), kind(first[2])
	if size > longestText || kind < chunkKind || kind > snapshotKind {
		return record{}, t, false
	}
	data, err := stretch(d, t.at, sectorsOf(size))
	if err != nil {
		return record{}, t, false
	}
	text := data[textAt : textAt+size]
	want, behind := t.with(kind, text) // number, CRC and the 0 behind the text are right if all is as it would be written
	return record{at: t.at, kind: kind, text: text}, behind, data == want
}

// records calls a function for each record of a disk, up to the first that is none, or that the function does not take; it tells the tail ahead of that.
func records(d *Disk, take func(record) bool) tail {
	end := start(d.Sectors())
	for {
		there, behind, ok := end.next(d)
		if !ok || !take(there) {
			return end
		}
		end = behind
	}
}

// sectorsOf tells how many sectors the record of a text of so many bytes has.
func sectorsOf(size int) int { return (textAt + size + sectorSize - 1) / sectorSize }

// stretch reads sectors that stand behind one another.
func stretch(d *Disk, from, sectors int) (string, error) {
	var data []byte
	for at := from; at < from+sectors; at++ {
		one, err := d.Read(at)
		if err != nil {
			return "", err
		}
		data = append(data, one...)
	}
	return string(data), nil
}
